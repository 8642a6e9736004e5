import Derived.Test.YtmnligaelihmiaaGm
namespace Go.Proofs.Ytmnligaelihmiaa
open Go.RowKit Go.Joins
/-- What stays where things are settled. -/
def KS (tg : Nat → Nat) (c : Nat) : Prop := tg c ≠ 1 ∧ tg c ≠ 3 ∧ tg c ≠ 4 ∧ tg c ≠ 6 ∧ tg c ≠ 7 ∧ tg c < 20
/-- The placing in memory. -/
def SS (e : List (List Int)) (n0 m : Nat) (ea : Option Addr) (ec GB : Nat) (A : GA) (of : Nat → Nat) (G : Nat → List Nat) (pl : Nat → Bool) (l : List Nat) (tg : Nat → Nat) (pend : List Nat) (W : World) : Prop :=
  ∃ st nx left wv wait hv H, GM e n0 m ea ec GB A tg of nx left G wv wait pl hv H W ∧ Gr.WI e of m l st nx left wait H pend ∧ He.Hp H H.length
structure SP (e : List (List Int)) (n0 m : Nat) (ea : Option Addr) (ec GB : Nat) (A : GA) (of : Nat → Nat) (G : Nat → List Nat) (pl : Nat → Bool) (l : List Nat) (tg : Nat → Nat) (pend : List Nat) (W W' : World) (tg' : Nat → Nat) : Prop where
  ss : SS e n0 m ea ec GB A of G pl l tg' pend W'
  ag : ∀ c, c < W.heap.size → tg' c = tg c
  kp : Kept (KS tg) W W'
theorem heap_len {e : List (List Int)} {of : Nat → Nat} {m : Nat} {l : List Nat} {st : Nat → Bool} {nx left : Nat → Nat} {wait : Nat → List Nat} {H pend : List Nat} (h : Gr.WI e of m l st nx left wait H pend) : H.length ≤ m := by
  have := Gr.nodup_sub (l := H) (m := List.range m) h.hn (fun g hg => List.mem_range.2 ((h.hh g).1 hg).1)
  simpa using this
theorem groups_le {e : List (List Int)} {of : Nat → Nat} {m : Nat} (h : Gr.Part e of m) : m ≤ e.length := by
  have h1 : ∀ k, k ≤ m → ∃ L : List Nat, L.length = k ∧ L.Nodup ∧ (∀ t ∈ L, t < e.length) ∧ ∀ t ∈ L, of t < k := by
    intro k
    induction k with
    | zero => intro _; exact ⟨[], rfl, List.nodup_nil, by simp, by simp⟩
    | succ k ih =>
      intro hk
      obtain ⟨L, a, b, c, d⟩ := ih (by omega)
      obtain ⟨t, ht, ho⟩ := h.ne k (by omega)
      refine ⟨t :: L, by simp [a], List.nodup_cons.2 ⟨fun hm => by have := d t hm; omega, b⟩, ?_, ?_⟩
      · intro u hu
        rcases List.mem_cons.1 hu with e1 | e1
        · rw [e1]; exact ht
        · exact c u e1
      · intro u hu
        rcases List.mem_cons.1 hu with e1 | e1
        · rw [e1, ho]; omega
        · have := d u e1; omega
  obtain ⟨L, a, b, c, -⟩ := h1 m (Nat.le_refl _)
  have := Gr.nodup_sub (l := L) (m := List.range e.length) b (fun g hg => List.mem_range.2 (c g hg))
  simp at this; omega
variable {e : List (List Int)} {n0 m : Nat} {ea : Option Addr} {ec GB : Nat} {A : GA} {of : Nat → Nat} {G : Nat → List Nat} {pl : Nat → Bool} {l : List Nat} {tg : Nat → Nat}
set_option maxHeartbeats 4000000 in
set_option maxRecDepth 100000 in
theorem i_settle {t : Nat} {rest : List Nat} {W : World} (hn : e.length ≤ 1048576) (hrl : ∀ (x : Nat) (r : List Int), e[x]? = some r → r.length ≤ 1048576) (hpl : ∀ g, g < m → (pl g = true ↔ g ∈ l)) (h : SS e n0 m ea ec GB A of G pl l tg (t :: rest) W) :
    Calls Try.prog 17 #[.pointer (some ⟨GB, 0, none⟩), .int .i64 t] W fun r W' => r = .returned (.tuple #[]) ∧ ∃ tg', SP e n0 m ea ec GB A of G pl l tg rest W W' tg' := by
  obtain ⟨st, nx, left, wv, wait, hv, H, hm, hw, hh⟩ := h
  have ht := (hw.pl t (by simp)).1
  obtain ⟨row, hrow⟩ : ∃ row, e[t]? = some row := ⟨_, List.getElem?_eq_getElem ht⟩
  obtain ⟨eb, eo, ax, cx, he1, he2, he3, he4⟩ := hm.em t row hrow
  obtain ⟨n, hnn⟩ : ∃ n, n = e.length := ⟨_, rfl⟩
  obtain ⟨L, hL⟩ : ∃ L, L = row.length := ⟨_, rfl⟩
  obtain ⟨o, ho⟩ : ∃ o, o = of t := ⟨_, rfl⟩
  have c0 := hm.bx.cel 0 _ rfl
  have c2 := hm.bx.cel 2 _ rfl
  rw [← hnn] at c0 c2
  rw [he1] at c0
  have ct := (hm.ofs t ht).1
  rw [← ho] at ct
  unfold iv at ct
  rw [← hL] at he3
  have htn : (t : Int) < n := by omega
  have HRL := hrl t row hrow
  rw [← hL] at HRL
  have HN := hide hnn
  have HL := hide hL
  have HO := hide ho
  have HE4 := hide he4
  have HEA := hide he1
  have HROW := hide hrow
  have HM := hide hm
  have HW := hide hw
  have HH := hide hh
  have HPL := hide hpl
  have HNB := hide hn
  have HT := hide ht
  clear hnn hL ho he4 he1 hrow hm hw hh hpl hn ht hrl
  go_enter Try.func17, Try.ntmps17
  go_upto_region 2 with fail
  go_loopg [6, 7] (L - nx t) (fun g s6 s7 wr => ∃ nx1, (∃ v, s6 = v) ∧ (∃ v, s7 = v) ∧ Hid (g = L - nx1 t) ∧ Hid (GM e n0 m ea ec GB A tg of nx1 left G wv wait pl hv H wr) ∧ Hid (Gr.WI e of m l st nx1 left wait H (t :: rest)) ∧ Hid (Kept (fun c => tg c ≠ 3) W wr))
  case atStart => exact ⟨nx, ⟨_, rfl⟩, ⟨_, rfl⟩, rfl, HM, HW, Kept.refl _ _⟩
  case round =>
    obtain ⟨nx1, ⟨v6, rfl⟩, ⟨v7, rfl⟩, hg, hM1, hW1, hK1⟩ := hrel
    obtain ⟨k, hk⟩ : ∃ k, k = nx1 t := ⟨_, rfl⟩
    have d3 := hM1.out.bx.cel 3 _ rfl
    rw [← HN.out] at d3
    obtain ⟨dk, fk⟩ := hM1.out.nxs t HT.out
    rw [← hk] at dk
    unfold iv at dk
    have HKK := hide hk
    have HG := hide hg.out
    clear hk c0 c2 ct he3
    by_cases hkl : k < L
    · obtain ⟨v, hv1⟩ : ∃ v, row[k]? = some v := ⟨_, List.getElem?_eq_getElem (by rw [← HL.out]; exact hkl)⟩
      obtain ⟨bb, oo, rfl, hb2, cv0⟩ := HE4.out k v hv1
      have cv := (hK1.out.cell (p := ⟨bb, oo + k, none⟩) (block_lt_of_cell cv0) (by show tg bb ≠ 3; rw [HM.out.t0 bb hb2]; omega)).trans cv0
      have hkli : (k : Int) < (L : Int) := by omega
      have HV2 : Hid (row[nx1 t]? = some v) := by unfold Hid; rw [← HKK.out]; exact hv1
      have HSK : Hid ((∀ y : Nat, row[nx1 t]? = some (y : Int) → y < e.length → of y = of t ∨ of y ∈ l) → GM e n0 m ea ec GB A tg of (Gr.upd nx1 t (k + 1)) left G wv wait pl hv H (wr.setCell ⟨A.NB, t, none⟩ (iv (k + 1))) ∧ Gr.WI e of m l st (Gr.upd nx1 t (k + 1)) left wait H (t :: rest) ∧ Kept (fun c => tg c ≠ 3) W (wr.setCell ⟨A.NB, t, none⟩ (iv (k + 1))) ∧ L - Gr.upd nx1 t (k + 1) t < L - k) := fun hs => by
        have h1 := hM1.out.setNx t (k + 1)
        have h2 := hW1.out.skip HROW.out hs
        rw [← HKK.out] at h2
        exact ⟨h1.1, h2, hK1.out.trans h1.2, by rw [Gr.upd_same]; omega⟩
      have ev : (.int .i64 ((k : Int) + 1) : Value) = iv (k + 1) := by unfold iv; congr 1
      rw [← ev] at HSK
      have d2 := hM1.out.bx.cel 2 _ rfl
      rw [← HN.out] at d2
      have HM1 := hide hM1.out
      have HW1 := hide hW1.out
      have HK1 := hide hK1.out
      clear hv1 hb2 cv0 ev hM1 hW1 hK1 hg
      by_cases hvi : 0 ≤ v ∧ v < (n : Int)
      · obtain ⟨y, rfl⟩ : ∃ y : Nat, v = (y : Int) := ⟨v.toNat, by omega⟩
        have HQ := hide (is_index (y : Int) n true (by simp [hvi]) wr)
        have hyn : y < e.length := by rw [← HN.out]; omega
        have hyi : (y : Int) < (n : Int) := hvi.2
        obtain ⟨gy, hgy⟩ : ∃ gy, gy = of y := ⟨_, rfl⟩
        have cy := (HM1.out.ofs y hyn).1
        rw [← hgy] at cy
        unfold iv at cy
        have hgm : gy < m := by rw [hgy]; exact HW1.out.pt.lt y hyn
        have HGY := hide hgy
        have HYN := hide hyn
        clear hgy hyn hvi
        by_cases hown : gy = o
        · have hne : ((gy : Int) != (o : Int)) = false := by simp [hown]
          have HS := hide (HSK.out (fun z hz _ => by
            rw [HV2.out] at hz
            have e1 : y = z := by have := Option.some.inj hz; omega
            left; rw [← e1, ← HGY.out, hown]; exact HO.out))
          clear hown
          go_wp2_with (go_at_call 28; refine HQ.out.mono ?_; rintro r W5 ⟨rfl, rfl⟩)
          go_roundg (L - Gr.upd nx1 t (k + 1) t)
          case measure => rw [HG.out, ← HKK.out]; exact HS.out.2.2.2
          case rel => exact ⟨_, ⟨_, rfl⟩, ⟨_, rfl⟩, rfl, HS.out.1, HS.out.2.1, HS.out.2.2.1⟩
        · have hne : ((gy : Int) != (o : Int)) = true := by
            have h1 : (gy : Int) ≠ (o : Int) := by omega
            simp [h1]
          have HOW := hide hown
          clear hown
          have d6 := HM1.out.bx.cel 6 _ rfl
          obtain ⟨cp, -⟩ := HM1.out.pls gy hgm
          have hgmi : (gy : Int) < (m : Int) := by omega
          cases hpg : pl gy with
          | true =>
            rw [hpg] at cp
            have HS := hide (HSK.out (fun z hz _ => by
              rw [HV2.out] at hz
              have e1 : y = z := by have := Option.some.inj hz; omega
              right; rw [← e1, ← HGY.out]; exact (HPL.out gy hgm).1 hpg))
            clear hpg
            go_wp2_with (go_at_call 28; refine HQ.out.mono ?_; rintro r W5 ⟨rfl, rfl⟩)
            go_roundg (L - Gr.upd nx1 t (k + 1) t)
            case measure => rw [HG.out, ← HKK.out]; exact HS.out.2.2.2
            case rel => exact ⟨_, ⟨_, rfl⟩, ⟨_, rfl⟩, rfl, HS.out.1, HS.out.2.1, HS.out.2.2.1⟩
          | false =>
            rw [hpg] at cp
            have HPG := hide hpg
            clear hpg
            have d5 := HM1.out.bx.cel 5 _ rfl
            obtain ⟨cw, cwf⟩ := HM1.out.wts.cel gy hgm
            obtain ⟨q, hq⟩ : ∃ q, q = (wait gy).length := ⟨_, rfl⟩
            have hqb : q ≤ e.length := by
              rw [hq]
              have := Gr.nodup_sub (l := wait gy) (m := List.range e.length) (HW1.out.wn gy hgm) (fun u hu => List.mem_range.2 (HW1.out.wl gy hgm u hu).1)
              simpa using this
            have HR : Hid (∀ V, Kept (fun _ => True) wr V → V.ownsRow 0 3 1 (wv gy) q ((wait gy).map iv) ∧ V.cell? ⟨GB, 5, none⟩ = some (.slice (some ⟨A.WQ, 0, none⟩) m m) ∧ V.cell? ⟨A.WQ, gy, none⟩ = some (wv gy)) := fun V kV => ⟨by rw [hq]; exact (HM1.out.wts.row gy hgm).kept kV (fun _ _ => trivial), (kV.cell (p := ⟨GB, 5, none⟩) HM1.out.bx.lt trivial).trans d5, (kV.cell (p := ⟨A.WQ, gy, none⟩) HM1.out.lts.2.2.1 trivial).trans cw⟩
            have HMM : Hid (q + 1 ≤ maxLen ∧ (q + 1) * 8 ≤ 140737488355328) := by have := HNB.out; unfold Hid maxLen; omega
            have HEND : Hid (∀ (V W4 : World) (b cap : Nat), Kept (fun _ => True) wr V → V.grownBy W4 (wv gy).ownBlock → W4.ownsRow 0 3 1 (.slice (some ⟨b, 0, none⟩) (q + 1) cap) (q + 1) ((wait gy).map iv ++ [.int .i64 (t : Int)]) → ((wv gy).ownBlock = some b ∨ b = V.heap.size) → W4.cell? ⟨GB, 5, none⟩ = some (.slice (some ⟨A.WQ, 0, none⟩) m m) ∧ W4.cell? ⟨A.WQ, gy, none⟩ = some (wv gy) ∧ W4.frozen? ⟨A.WQ, gy, none⟩ = false ∧ (W4.setCell ⟨A.WQ, gy, none⟩ (.slice (some ⟨b, 0, none⟩) (q + 1) cap)).cell? ⟨GB, 5, none⟩ = some (.slice (some ⟨A.WQ, 0, none⟩) m m) ∧ ∃ tg', SP e n0 m ea ec GB A of G pl l tg rest W (W4.setCell ⟨A.WQ, gy, none⟩ (.slice (some ⟨b, 0, none⟩) (q + 1) cap)) tg') := by
              intro V W4 b cap kV hG hO hat
              rw [hq] at hO ⊢
              have k4 : Kept (fun c => (wv gy).ownBlock ≠ some c) wr W4 := (kV.mono (fun _ _ _ => trivial)).trans (Kept.grown hG (fun k hk hn => hn hk))
              have hWn : (wv gy).ownBlock ≠ some A.WQ := fun e1 => by have := HM1.out.wts.tgs gy hgm A.WQ e1; have := HM1.out.tWQ; omega
              have hGn : (wv gy).ownBlock ≠ some GB := fun e1 => by have := HM1.out.wts.tgs gy hgm GB e1; have := HM1.out.tGB; omega
              have hWG : GB ≠ A.WQ := fun e1 => by have h1 := HM1.out.tGB; have h2 := HM1.out.tWQ; rw [e1] at h1; omega
              have x5 := (k4.cell (p := ⟨GB, 5, none⟩) HM1.out.bx.lt hGn).trans d5
              obtain ⟨p1, p2, p3⟩ := HM1.out.push hgm kV hG hO hat
              have hd := HW1.out.defer (y := y) ⟨HYN.out, row, HROW.out, List.mem_of_getElem? HV2.out⟩ (by rw [← HGY.out, ← HO.out]; exact HOW.out) (by rw [← HGY.out]; exact fun hl => by have := (HPL.out gy hgm).2 hl; rw [HPG.out] at this; simp at this)
              rw [← HGY.out] at hd
              refine ⟨x5, (k4.cell (p := ⟨A.WQ, gy, none⟩) HM1.out.lts.2.2.1 hWn).trans cw, (k4.frozen (p := ⟨A.WQ, gy, none⟩) HM1.out.lts.2.2.1 hWn).trans cwf, ?_, mark tg b (20 + gy), ⟨st, nx1, left, _, _, hv, H, p1, hd, HH.out⟩, fun c hc => p2 c (Nat.lt_of_lt_of_le hc HK1.out.size), (HK1.out.mono (fun c _ h => h.2.1)).trans (p3.mono (fun c _ h => ⟨h.2.2.2.1, h.2.2.2.2.2⟩))⟩
              rw [World.cell?_setCell_other _ _ _ _ (fun e2 => by have := congrArg Addr.block e2; exact hWG this.symm)]
              exact x5
            clear hq hqb cwf HSK HOW
            go_upto_region 8 with (go_at_call 28; refine HQ.out.mono ?_; rintro r W5 ⟨rfl, rfl⟩)
            have cwa : ∀ o, (W5.alloc o).drew.cell? ⟨A.WQ, gy, none⟩ = some (wv gy) := fun o => (HR.out _ ((Kept.alloc _ _ _).dr)).2.2
            refine wp_region_held_drew (S := (fun w => w.cell? ⟨GB, 5, none⟩ = some (.slice (some ⟨A.WQ, 0, none⟩) m m))) (by kernel_rfl) d5 (fun hHeld => ?_)
            refine tn 0 ?_
            refine tn 1 ?_
            refine tn 2 ?_
            refine tn 3 ?_
            refine tn 4 ?_
            refine tn 5 ?_
            refine tn 6 ?_
            refine tn 7 ?_
            refine tn 8 ?_
            refine tn 9 ?_
            refine tn 10 ?_
            refine tn 12 ?_
            refine wpAnyH_ready (rs := [11, 13]) (by kernel_rfl) (by simp) ?_
            refine AllReadyH.cons rfl (fun K hK => ?_) (AllReadyH.cons rfl (fun K hK => ?_) AllReadyH.nil)
            · go_simp
              refine hK.out _ _ (HR.out _ ((Kept.refl _ _).dr)).2.1 (fun hHeld1 => ?_)
              clear hK K
              refine rk 13 (fun K hK => ?_)
              go_simp
              refine hK.out _ _ (HR.out _ ((Kept.alloc _ _ _).dr)).2.1 (fun hHeld2 => ?_)
              clear hK K
              refine rk 14 (fun K hK => ?_)
              refine ur_draw (by rfl) _ _ 26 3 (by rfl) Try.info3 Try.underlying26 rfl (by decide) 0 _ (wv gy) q ((wait gy).map iv) [.int .i64 (t : Int)] _ 1 (by rfl) (HR.out _ ((Kept.alloc _ _ _).dr)).1 (by rfl) (heap_new_dr _ _) (Nat.zero_le _) rfl (by simp [Value.oneCell']) HMM.out.1 HMM.out.2 ?_
              intro b cap W6 hO6 hG6 hat6
              obtain ⟨e1, e2, e3, e4, e5⟩ := HEND.out _ W6 b cap ((Kept.alloc _ _ _).dr) hG6 hO6 hat6
              refine hK.out _ _ e1 (fun hHeld3 => ?_)
              clear hK K
              refine tn 15 ?_
              refine rk 16 (fun K hK => ?_)
              go_simp
              refine hK.out _ _ e4 (fun hHeld4 => ?_)
              clear hK K
              refine wpAnyH_done (by kernel_rfl) ?_ _
              go_wp2_with fail
              refine bodyPost_ret (results_none rfl _ _ _) rfl ?_
              exact ⟨rfl, e5⟩
            · go_simp
              refine hK.out _ _ (HR.out _ ((Kept.alloc _ _ _).dr)).2.1 (fun hHeld1 => ?_)
              clear hK K
              refine rk 11 (fun K hK => ?_)
              go_simp
              refine hK.out _ _ (HR.out _ ((Kept.alloc _ _ _).dr)).2.1 (fun hHeld2 => ?_)
              clear hK K
              refine rk 14 (fun K hK => ?_)
              refine ur_draw (by rfl) _ _ 26 3 (by rfl) Try.info3 Try.underlying26 rfl (by decide) 0 _ (wv gy) q ((wait gy).map iv) [.int .i64 (t : Int)] _ 1 (by rfl) (HR.out _ ((Kept.alloc _ _ _).dr)).1 (by rfl) (heap_new_dr _ _) (Nat.zero_le _) rfl (by simp [Value.oneCell']) HMM.out.1 HMM.out.2 ?_
              intro b cap W6 hO6 hG6 hat6
              obtain ⟨e1, e2, e3, e4, e5⟩ := HEND.out _ W6 b cap ((Kept.alloc _ _ _).dr) hG6 hO6 hat6
              refine hK.out _ _ e1 (fun hHeld3 => ?_)
              clear hK K
              refine tn 15 ?_
              refine rk 16 (fun K hK => ?_)
              go_simp
              refine hK.out _ _ e4 (fun hHeld4 => ?_)
              clear hK K
              refine wpAnyH_done (by kernel_rfl) ?_ _
              go_wp2_with fail
              refine bodyPost_ret (results_none rfl _ _ _) rfl ?_
              exact ⟨rfl, e5⟩
      · have HQ := hide (is_index v n false (by simp only [Bool.false_eq_true, false_iff]; exact hvi) wr)
        have HS := hide (HSK.out (fun z hz hz2 => by
          rw [HV2.out] at hz
          have e1 : v = (z : Int) := Option.some.inj hz
          exact absurd ⟨by omega, by have := HN.out; omega⟩ hvi))
        clear hvi
        go_wp2_with (go_at_call 28; refine HQ.out.mono ?_; rintro r W5 ⟨rfl, rfl⟩)
        go_roundg (L - Gr.upd nx1 t (k + 1) t)
        case measure => rw [HG.out, ← HKK.out]; exact HS.out.2.2.2
        case rel => exact ⟨_, ⟨_, rfl⟩, ⟨_, rfl⟩, rfl, HS.out.1, HS.out.2.1, HS.out.2.2.1⟩
    · have hkli : ¬ (k : Int) < (L : Int) := by omega
      have hom : o < m := by rw [HO.out]; exact hW1.out.pt.lt t HT.out
      have hm0 : 0 < m := by omega
      obtain ⟨ela, tLB, hlc⟩ := hM1.out.tLB hm0
      have d4 := hM1.out.bx.cel 4 _ rfl
      rw [ela] at d4
      obtain ⟨cl, cf⟩ := hM1.out.lfs o hom
      obtain ⟨s1, s2, s3⟩ := hW1.out.settle HROW.out (by rw [← HL.out, ← HKK.out]; omega)
      rw [← HO.out] at s1 s2 s3
      obtain ⟨p, hp⟩ : ∃ p, left o = p + 1 := ⟨left o - 1, by omega⟩
      have hpb : p + 1 ≤ 1048576 := by
        rw [← hp, hW1.out.lf o hom]
        have := List.length_filter_le (fun t => of t == o && !st t) (List.range e.length)
        rw [List.length_range] at this
        exact Nat.le_trans this HNB.out
      rw [hp] at cl s2 s3
      rw [Nat.add_sub_cancel] at s2 s3
      obtain ⟨q, hq⟩ : ∃ q, q = p + 1 := ⟨_, rfl⟩
      rw [← hq] at cl hpb
      unfold iv at cl
      have hq1 : (q : Int) - 1 = (p : Int) := by omega
      have hq0 : 0 < (q : Int) := by omega
      have hqb : (q : Int) ≤ 1048576 := by omega
      have hlcI : (m : Int) ≤ (A.lc : Int) := by omega
      have homI : (o : Int) < (m : Int) := by omega
      obtain ⟨h1, k1⟩ := hM1.out.setLf hm0 o p
      have ev : iv p = .int .i64 ((q : Int) - 1) := by unfold iv; rw [hq1]
      rw [ev] at h1 k1
      have e4 := h1.bx.cel 4 _ rfl
      rw [ela] at e4
      have el := (h1.lfs o hom).1
      rw [Gr.upd_same, ev] at el
      have K1 := hide ((hK1.out.mono (fun c _ h => h.1) : Kept (fun c => tg c ≠ 3 ∧ tg c ≠ 4) W wr).trans (k1.mono (fun c _ h => h.2)))
      have HH1 := hide h1
      have HWI := hide hW1.out
      have HS2 := hide s2
      have HS3 := hide s3
      clear hM1 hW1 hK1 fk hg h1 k1 s1 s2 s3 ev tLB hpb hm0 hp ela hq hlc
      cases p with
      | zero =>
        have HQ := hide (He.put29 GB 7 0 hv H o _ (HH1.out.hb (by have := heap_len HWI.out; have := groups_le HWI.out.pt; have := HNB.out; omega)) HH.out (by have := heap_len (HS3.out rfl (o :: H) (List.Perm.refl _)); have := groups_le HWI.out.pt; have := HNB.out; simp only [List.length_cons] at *; omega) (Nat.zero_le _))
        have z1 : ((q : Int) - 1 == 0) = true := by rw [hq1]; rfl
        have z2 : decide ((q : Int) - 1 = 0) = true := by rw [hq1]; rfl
        clear hq1
        go_wp2_with (go_at_call 29; refine HQ.out.mono ?_; rintro r W5 ⟨rfl, b, cap, H', a1, a2, a3, a4, a5, a6⟩)
        go_end0
        obtain ⟨p1, p2, p3⟩ := HH1.out.ready a1 a4 a5 a6
        refine ⟨rfl, mark tg b 7, ⟨_, nx1, _, _, _, _, H', p1, HS3.out trivial H' (a2.trans (List.perm_append_singleton _ _)), a3⟩, fun c hc => p2 c (Nat.lt_of_lt_of_le hc K1.out.size), (K1.out.mono (fun c _ h => ⟨h.2.1, h.2.2.1⟩)).trans (p3.mono (fun c _ h => ⟨h.1, h.2.2.2.2.1⟩))⟩
      | succ p =>
        have z1 : ((q : Int) - 1 == 0) = false := by rw [hq1]; simp; omega
        have z2 : decide ((q : Int) - 1 = 0) = false := by rw [hq1]; simp; omega
        clear hq1
        go_wp2_with fail
        go_end0
        exact ⟨rfl, tg, ⟨_, nx1, _, _, _, _, H, HH1.out, HS2.out (by omega), HH.out⟩, fun c hc => rfl, K1.out.mono (fun c _ h => ⟨h.2.1, h.2.2.1⟩)⟩
end Go.Proofs.Ytmnligaelihmiaa
