import Derived.Test.YtfgmgbkiebeeoaaJH
import Derived.Deep.RegionHeld3
namespace Go.Proofs.Ytfgmgbkiebeeoaa
open Go.RowKit Go.Joins

theorem wr1 (m : Nat) (h : m ≤ 10000000) : IntKind.i64.wrap (m : Int) = (m : Int) := by
  rw [IntKind.wrap_i64]
  omega

theorem upd_keep {L : Nat → Int} {p : Nat} {v : Int} (hv : v ≠ -1) : ∀ j, L j ≠ -1 → upd L p v j ≠ -1 := fun j h => by
  by_cases e : j = p
  · rw [e, upd_same]; exact hv
  · rw [upd_ne _ _ e]; exact h

/-- The list at hand goes on by one. -/
theorem MS.next {g : Gr} {W0 : World} {lo G nb lsb B tb lb ct cl cn cm : Nat} {V : World} {T L : Nat → Int} {l n : Nat} {st : List (Nat × Nat)} {b cap m : Nat} (c : MC g W0 lo G nb lsb B tb lb ct cl cn cm) (hm : st.length = m) (h : MS g W0 lo G B tb lb ct cl V T L ((l, n) :: st) (.slice (some ⟨b, 0, none⟩) (m + 1) cap)) {s : Nat} (hs : s = psum g.sT (g.fst l) (n + 1)) :
    MS g W0 lo G B tb lb ct cl ((V.setCell ⟨b, m * 3 + 2, none⟩ (.int .i64 s)).setCell ⟨b, m * 3 + 1, none⟩ (.int .i64 ((n : Int) + 1))) T L ((l, n + 1) :: st) (.slice (some ⟨b, 0, none⟩) (m + 1) cap) := by
  subst hm hs
  have ho := h.ow
  have hsl := g.stk_len st
  have e1 : g.stk ((l, n) :: st) = (g.stk st ++ [.int .i64 l, .int .i64 n]) ++ .int .i64 (psum g.sT (g.fst l) n) :: [] := by rw [g.stk_cons]; simp [Gr.fr]
  rw [e1] at ho
  have o1 := ownsRow_set ho (.int .i64 ((psum g.sT (g.fst l) (n + 1) : Nat) : Int))
  have l1 : (g.stk st ++ [Value.int .i64 l, .int .i64 n]).length = st.length * 3 + 2 := by simp [hsl]
  rw [l1] at o1
  have e2 : (g.stk st ++ [Value.int .i64 l, .int .i64 n]) ++ .int .i64 ((psum g.sT (g.fst l) (n + 1) : Nat) : Int) :: [] = (g.stk st ++ [.int .i64 l]) ++ .int .i64 n :: [.int .i64 ((psum g.sT (g.fst l) (n + 1) : Nat) : Int)] := by simp
  rw [e2] at o1
  have o2 := ownsRow_set o1 (.int .i64 ((n : Int) + 1))
  have l2 : (g.stk st ++ [Value.int .i64 l]).length = st.length * 3 + 1 := by simp [hsl]
  rw [l2] at o2
  have e3 : (g.stk st ++ [Value.int .i64 l]) ++ .int .i64 ((n : Int) + 1) :: [.int .i64 ((psum g.sT (g.fst l) (n + 1) : Nat) : Int)] = g.stk ((l, n + 1) :: st) := by rw [g.stk_cons]; simp [Gr.fr]
  rw [e3] at o2
  have k : Kept (fun d => d ≠ b) V ((V.setCell ⟨b, st.length * 3 + 2, none⟩ (.int .i64 ((psum g.sT (g.fst l) (n + 1) : Nat) : Int))).setCell ⟨b, st.length * 3 + 1, none⟩ (.int .i64 ((n : Int) + 1))) := ((Kept.refl _ _).set (by simp)).set (by simp)
  exact MS.top (st := (l, n) :: st) (st' := (l, n + 1) :: st) c h k rfl o2

/-- What goOn leaves. -/
def GoP (g : Gr) (W0 : World) (lo G B tb lb ct cl : Nat) (L0 : Nat → Int) (k : Nat) (e : Ending) (V' : World) : Prop :=
  e = .returned (.tuple #[]) ∧ ∃ T L st sv, g.MI T L st ∧ MS g W0 lo G B tb lb ct cl V' T L st sv ∧ g.left L st < k ∧ (sv = .slice none 0 0 ∧ st = [] ∨ ∃ b cap, sv = .slice (some ⟨b, 0, none⟩) st.length cap) ∧ ∀ j, L0 j ≠ -1 → L j ≠ -1

set_option maxHeartbeats 8000000 in
set_option maxRecDepth 100000 in
theorem i_goOn {g : Gr} {W0 : World} {lo G nb lsb B tb lb ct cl cn cm : Nat} {V : World} {T L : Nat → Int} {l n : Nat} {st : List (Nat × Nat)} {b cap m : Nat} (c : MC g W0 lo G nb lsb B tb lb ct cl cn cm) (hm : st.length = m) (h : MS g W0 lo G B tb lb ct cl V T L ((l, n) :: st) (.slice (some ⟨b, 0, none⟩) (m + 1) cap)) (hi : g.MI T L ((l, n) :: st)) (hs : m + 1 ≤ 10000000) (HLIM : ∀ p q, p < g.nl → q < g.nl → g.sL p ≤ 400000000 ∧ g.sL q ≤ 400000000) :
    Calls Try.prog 44 #[.pointer (some ⟨B, 0, none⟩)] V (GoP g W0 lo G B tb lb ct cl L (g.left L ((l, n) :: st))) := by
  obtain ⟨hl', hnc'⟩ := hi.op (l, n) List.mem_cons_self
  have hl : l < g.nl := hl'
  have hnc : n ≤ g.cnt l := hnc'
  clear hl' hnc'
  have hlc : l < cm := by have := c.nc; omega
  have HFA : Hid (∀ V', Kept (fun _ => True) V V' → (V'.cell? ⟨B, 4, none⟩ = some (.slice (some ⟨b, 0, none⟩) (m + 1) cap) ∧ V'.cell? ⟨B, 0, none⟩ = some (.pointer (some ⟨G, 0, none⟩)) ∧ V'.cell? ⟨B, 3, none⟩ = some (.slice (some ⟨lb, 0, none⟩) g.nl cl)) ∧ (V'.cell? ⟨b, m * 3, none⟩ = some (.int .i64 l) ∧ V'.cell? ⟨b, m * 3 + 1, none⟩ = some (.int .i64 n) ∧ V'.cell? ⟨b, m * 3 + 2, none⟩ = some (.int .i64 (psum g.sT (g.fst l) n))) ∧ V'.cell? ⟨G, 9, none⟩ = some (.slice (some ⟨lsb, 0, none⟩) g.nl cm) ∧ V'.cell? ⟨lsb, l * 2, none⟩ = some (.int .i64 (g.fst l)) ∧ V'.cell? ⟨lsb, l * 2 + 1, none⟩ = some (.int .i64 (g.cnt l))) := fun V' k => by
    have h' := h.kept c k
    have ho := h'.ow
    rw [g.stk_cons, List.length_cons, hm] at ho
    have hsl := g.stk_len st
    rw [hm] at hsl
    have hce : ∀ j v, (g.fr (l, n))[j]? = some v → V'.cell? ⟨b, m * 3 + j, none⟩ = some v := fun j v hv => by
      refine ownsRow_cell ho (m * 3 + j) v ?_
      rw [← hsl, List.getElem?_append_right (by omega)]
      simpa using hv
    have e9 := (h'.be.cell (p := ⟨G, 9, none⟩) (block_lt_of_cell c.n9)).trans c.n9
    have e1 := (h'.be.cell (p := ⟨lsb, l * 2, none⟩) (block_lt_of_cell (c.ls l hl).1)).trans (c.ls l hl).1
    have e2 := (h'.be.cell (p := ⟨lsb, l * 2 + 1, none⟩) (block_lt_of_cell (c.ls l hl).2)).trans (c.ls l hl).2
    exact ⟨⟨h'.bx.cel 4 _ rfl, h'.bx.cel 0 _ rfl, h'.bx.cel 3 _ rfl⟩, ⟨hce 0 _ rfl, hce 1 _ rfl, hce 2 _ rfl⟩, e9, e1, e2⟩
  have HT : Hid (g.MI T L ((l, n) :: st) ∧ MS g W0 lo G B tb lb ct cl V T L ((l, n) :: st) (.slice (some ⟨b, 0, none⟩) (m + 1) cap)) := ⟨hi, h⟩
  have HC := hide c
  have HM := hide hm
  have HHL := hide HLIM
  clear hm h hi HLIM c
  have HDR : Hid (Kept (fun _ => True) V V.drew) := Kept.drew _ _
  have k0 := HFA.out V.drew HDR.out
  have k1 := HFA.out V (Kept.refl _ _)
  go_enter Try.func44, Try.ntmps44
  go_upto_region 0 with fail
  go_cut [2] (fun s wx => s = .pointer (some ⟨b, m * 3, none⟩) ∧ Kept (fun _ => True) V wx)
  case first =>
    go_region
    all_goals
      go_wp2_with fail
      go_meet
      case rel => exact ⟨rfl, HDR.out⟩
  case rest =>
  obtain ⟨rfl, hcb⟩ := hcut
  rename World => v1
  have K1 := hide hcb
  clear hcb k0 k1 HDR
  go_upto_region 1 with fail
  have HDR : Hid (Kept (fun _ => True) V v1.drew) := K1.out.dr
  have k0 := HFA.out v1.drew HDR.out
  have k1 := HFA.out v1 K1.out
  have k2 := HFA.out (v1.alloc (.cells #[.int .i64 0, .int .i64 0] 80)) (K1.out.trans (Kept.alloc _ _ _))
  have k3 := HFA.out (v1.alloc (.cells #[.int .i64 0, .int .i64 0] 80)).drew (K1.out.trans (Kept.alloc _ _ _)).dr
  go_cut [3] (fun s wx => ∃ x, s = .pointer (some ⟨x, 0, none⟩) ∧ V.heap.size ≤ x ∧ Bx wx x [.int .i64 (g.fst l), .int .i64 (g.cnt l)] ∧ Kept (fun _ => True) V wx)
  case first =>
    go_region
    all_goals
      go_wp2_with fail
      go_meet
      case rel => exact ⟨_, rfl, K1.out.size, (Bx.new _ _ _).kept (Kept.drew (fun _ => True) _) trivial, (K1.out.trans (Kept.alloc _ _ _)).dr⟩
  case rest =>
  obtain ⟨x, rfl, hx, hbx, hcb⟩ := hcut
  rename World => v2
  have K2 := hide hcb
  have HX := hide hx
  have HBX := hide hbx
  clear hcb k0 k1 k2 k3 HDR K1 hx hbx
  go_upto_region 2 with fail
  have HDR : Hid (Kept (fun _ => True) v2 v2.drew) := Kept.drew _ _
  have k0 := HFA.out v2.drew (K2.out.trans HDR.out)
  have k1 := HFA.out v2 K2.out
  have x0 := HBX.out.cel 0 _ rfl
  have x1 := HBX.out.cel 1 _ rfl
  have y0 := (HBX.out.kept HDR.out trivial).cel 0 _ rfl
  have y1 := (HBX.out.kept HDR.out trivial).cel 1 _ rfl
  obtain ⟨q, hq⟩ : ∃ q, ((n : Int) == (g.cnt l : Int)) = q := ⟨_, rfl⟩
  go_cut [35] (fun s wx => s = .bool q ∧ Kept (fun _ => True) v2 wx)
  case first =>
    go_region
    all_goals
      go_wp2_with fail
      go_meet
      case rel => exact ⟨by first | rfl | rw [hq] | (rw [← hq]; rfl), HDR.out⟩
  case rest =>
  obtain ⟨rfl, hcb⟩ := hcut
  rename World => v3
  have K3 := hide (K2.out.trans hcb)
  have HBX3 := hide (HBX.out.kept hcb trivial)
  clear hcb k0 k1 x0 x1 y0 y1 HDR HBX K2
  cases q
  · have hne : n < g.cnt l := by
      have : (n : Int) ≠ (g.cnt l : Int) := by simpa using hq
      omega
    have hft : g.fst l + n < g.nt ∧ g.nt ≤ 10000000 := by have := HC.out.ok.bnd l hl; have := HC.out.ok.lim.2; omega
    obtain ⟨k, hkk⟩ : ∃ k, g.fst l + n = k := ⟨_, rfl⟩
    rw [hkk] at hft
    have HKK := hide hkk
    have hsum : (g.fst l : Int) + (n : Int) = (k : Int) := by omega
    clear hq hkk
    go_upto_region 5 with fail
    have HDR : Hid (Kept (fun _ => True) v3 v3.drew) := Kept.drew _ _
    have k0 := HFA.out v3.drew (K3.out.trans HDR.out)
    have k1 := HFA.out v3 K3.out
    have x0 := HBX3.out.cel 0 _ rfl
    have y0 := (HBX3.out.kept HDR.out trivial).cel 0 _ rfl
    go_cut [4] (fun s wx => s = .int .i64 (k : Int) ∧ Kept (fun _ => True) v3 wx)
    case first =>
      go_region
      all_goals
        go_wp2_with fail
        go_meet
        case rel => exact ⟨by first | rfl | rw [hsum], HDR.out⟩
    case rest =>
    obtain ⟨rfl, hcb⟩ := hcut
    rename World => v4
    clear hsum
    have K4 := hide (K3.out.trans hcb)
    clear hcb k0 k1 x0 y0 HDR HBX3 K3
    have hme := i_meas HC.out (HT.out.2.kept HC.out K4.out) HT.out.1 hne (by rw [HM.out]; exact hs) HHL.out
    rw [HKK.out] at hme
    have HME := hide hme
    clear hme
    go_upto_if 72 with fail
    refine HME.out.mono ?_
    rintro e v5 (⟨rfl, T', t1, t2, t3⟩ | ⟨rfl, p, b', cap', p1, p2, p3, p4⟩)
    · have M5 := hide t3
      have HT1 := hide t1
      have HT2 := hide t2
      clear t1 t2 t3 HME
      go_upto_region 7 with fail
      obtain ⟨s, hs1⟩ : ∃ s, psum g.sT (g.fst l) n = s := ⟨_, rfl⟩
      obtain ⟨u, hu1⟩ : ∃ u, g.sT (g.fst l + n) = u := ⟨_, rfl⟩
      have hsu : s + u ≤ 400000000 := by
        have h1 := g.part hne
        have h2 := (HHL.out l l hl hl).1
        omega
      have HFB : Hid (∀ V', Kept (fun _ => True) v5 V' → (V'.cell? ⟨B, 2, none⟩ = some (.slice (some ⟨tb, 0, none⟩) g.nt ct) ∧ V'.cell? ⟨tb, k, none⟩ = some (.int .i64 (u : Int))) ∧ V'.cell? ⟨b, m * 3 + 2, none⟩ = some (.int .i64 (s : Int)) ∧ V'.cell? ⟨b, m * 3 + 1, none⟩ = some (.int .i64 (n : Int)) ∧ V'.frozen? ⟨b, m * 3 + 2, none⟩ = false ∧ V'.frozen? ⟨b, m * 3 + 1, none⟩ = false) := fun V' kV => by
        have h' := M5.out.kept HC.out kV
        have ho := h'.ow
        rw [g.stk_cons, List.length_cons, HM.out] at ho
        have hsl := g.stk_len st
        rw [HM.out] at hsl
        have hce : ∀ j v, (g.fr (l, n))[j]? = some v → V'.cell? ⟨b, m * 3 + j, none⟩ = some v := fun j v hv => by
          refine ownsRow_cell ho (m * 3 + j) v ?_
          rw [← hsl, List.getElem?_append_right (by omega)]
          simpa using hv
        have e1 := h'.tr k hft.1
        have e2 := HT1.out
        rw [HKK.out] at e2
        rw [HKK.out] at hu1
        rw [e2, hu1] at e1
        have e3 := hce 2 _ rfl
        rw [hs1] at e3
        exact ⟨⟨h'.bx.cel 2 _ rfl, e1⟩, e3, hce 1 _ rfl, ownsRow_live ho _, ownsRow_live ho _⟩
      have hkt : k < ct ∧ k < g.nt := by have := HC.out.nc; omega
      have HDR : Hid (Kept (fun _ => True) v5 v5.drew) := Kept.drew _ _
      have k0 := HFB.out v5.drew HDR.out
      have k1 := HFB.out v5 (Kept.refl _ _)
      have HCS : Hid (∀ V', Calls Try.prog 64 #[.int .i64 s, .int .i64 u] V' fun e W' => e = .returned (.int .i64 ((s + u : Nat) : Int)) ∧ W' = V') := fun V' => i_capped s u (by omega) (by omega) V'
      have HF : Hid (∀ V', Kept (fun _ => True) v5 V' → GoP g W0 lo G B tb lb ct cl L (g.left L ((l, n) :: st)) (.returned (.tuple #[])) ((V'.setCell ⟨b, m * 3 + 2, none⟩ (.int .i64 ((s + u : Nat) : Int))).setCell ⟨b, m * 3 + 1, none⟩ (.int .i64 ((n : Int) + 1)))) := fun V' kV =>
        ⟨rfl, T', L, (l, n + 1) :: st, _, HT2.out.adv hne, MS.next HC.out HM.out (M5.out.kept HC.out kV) (by rw [← hs1, ← hu1]; rfl), g.left_adv L hne, .inr ⟨b, cap, by rw [List.length_cons, HM.out]⟩, fun _ h => h⟩
      clear hs1 hu1
      go_cut [2] (fun t wx => t = .pointer (some ⟨b, m * 3, none⟩) ∧ ∃ V', Kept (fun _ => True) v5 V' ∧ wx = V'.setCell ⟨b, m * 3 + 2, none⟩ (.int .i64 ((s + u : Nat) : Int)))
      case first =>
        go_region_with (go_at_call 64; refine (HCS.out _).mono ?_; rintro e w9 ⟨rfl, rfl⟩)
        all_goals
          go_wp2_with fail
          go_meet
          case rel => exact ⟨rfl, v5.drew, HDR.out, by rw [Int.natCast_add]; rfl⟩
      case rest =>
      obtain ⟨rfl, V', kV', rfl⟩ := hcut
      have KV := hide kV'
      clear k0 k1 HDR kV'
      have k0 := HFB.out V' KV.out
      have hff := HF.out V' KV.out
      rw [Int.natCast_add] at hff
      have HFF := hide hff
      clear hff
      have hnb : n ≤ 10000000 := by have := HKK.out; omega
      go_wp2_with fail
      exact bodyPost_end (results_none rfl _ _ _) rfl HFF.out
    · have HF : Hid (GoP g W0 lo G B tb lb ct cl L (g.left L ((l, n) :: st)) (.returned (.tuple #[])) v5) := by
        rw [HM.out] at p4
        exact ⟨rfl, T, _, _, _, p3, p4, g.left_opn L _ (by omega) p1 p2, .inr ⟨b', cap', by rw [List.length_cons, List.length_cons, HM.out]⟩, upd_keep (by omega)⟩
      clear p1 p2 p3 p4 HME
      go_wp2_with fail
      exact bodyPost_end (results_none rfl _ _ _) rfl HF.out
  · have heq : n = g.cnt l := by
      have : (n : Int) = (g.cnt l : Int) := by simpa using hq
      omega
    clear hq
    have HEQ := hide heq
    clear heq
    go_upto_region 3 with fail
    have HDR : Hid (Kept (fun _ => True) v3 v3.drew) := Kept.drew _ _
    have k0 := HFA.out v3.drew (K3.out.trans HDR.out)
    have k1 := HFA.out v3 K3.out
    have M3 := hide (HT.out.2.kept HC.out K3.out)
    have M3d := hide (M3.out.kept HC.out HDR.out)
    have x0 := M3.out.lr l hl
    have x1 := M3.out.lf l
    have y0 := M3d.out.lr l hl
    have y1 := M3d.out.lf l
    have hlcl : l < cl := by have := HC.out.nc; omega
    go_cut [2] (fun s wx => s = .pointer (some ⟨b, m * 3, none⟩) ∧ MS g W0 lo G B tb lb ct cl wx T (upd L l (psum g.sT (g.fst l) n)) ((l, n) :: st) (.slice (some ⟨b, 0, none⟩) (m + 1) cap))
    case first =>
      go_region
      all_goals
        go_wp2_with fail
        go_meet
        case rel => exact ⟨rfl, by first | exact M3d.out.setL HC.out hl _ | exact (M3.out.setL HC.out hl _).kept HC.out (Kept.drew _ _)⟩
    case rest =>
    obtain ⟨rfl, hcb⟩ := hcut
    rename World => v4
    have M4 := hide hcb
    clear hcb k0 k1 x0 x1 y0 y1 M3 M3d HDR K3 HBX3
    go_upto_region 4 with fail
    have M4d : Hid (MS g W0 lo G B tb lb ct cl v4.drew T (upd L l (psum g.sT (g.fst l) n)) ((l, n) :: st) (.slice (some ⟨b, 0, none⟩) (m + 1) cap)) := M4.out.kept HC.out (Kept.drew _ _)
    have x0 := M4.out.bx.cel 4 _ rfl
    have x1 := M4.out.bx.live 4
    have y0 := M4d.out.bx.cel 4 _ rfl
    have y1 := M4d.out.bx.live 4
    have hmc : m ≤ cap := by
      have ho := M4.out.ow
      rw [List.length_cons, HM.out] at ho
      have := (ownsRow_le ho).2.2.1
      omega
    have hwm : IntKind.i64.wrap (m : Int) = (m : Int) := wr1 m (by omega)
    have HF : Hid (GoP g W0 lo G B tb lb ct cl L (g.left L ((l, n) :: st)) (.returned (.tuple #[])) (v4.setCell ⟨B, 4, none⟩ (.slice (some ⟨b, 0, none⟩) m cap)).drew) := by
      have hV := M4.out
      have ho := hV.ow
      rw [g.stk_cons, List.length_cons, HM.out] at ho
      have ho' := ownsRow_cut ho (by rw [g.stk_len, HM.out])
      rw [← HM.out]
      rw [← HM.out] at ho'
      exact ⟨rfl, T, _, st, _, HT.out.1.pop HEQ.out, (hV.open HC.out (Kept.refl _ _) ho').kept HC.out (Kept.drew _ _), g.left_pop L _ (by omega), .inr ⟨b, cap, rfl⟩, upd_keep (by omega)⟩
    go_region
    all_goals
      go_wp2_with fail
      exact bodyPost_ret (results_none rfl _ _ _) rfl HF.out
end Go.Proofs.Ytfgmgbkiebeeoaa
