import Derived.Test.YtmnligaelihmiaaMe
namespace Go.Proofs.Ytmnligaelihmiaa
open Go.RowKit Go.Joins
theorem Gr.gm_succ (of : Nat → Nat) (k g : Nat) : Gr.gm of (k + 1) g = if of k = g then Gr.gm of k g ++ [k] else Gr.gm of k g := by
  unfold Gr.gm
  rw [List.range_succ, List.filter_append]
  by_cases e1 : of k = g
  · simp [e1]
  · have : (of k == g) = false := beq_false_of_ne e1
    simp [e1]
theorem MO.mono {n0 n1 n : Nat} {of : Nat → Nat} {l : List Nat} {v : Value} {W : World} (h : MO n0 n of l v W) (hl : n1 ≤ n0) : MO n1 n of l v W := by
  obtain ⟨xs, h1, h2, h3⟩ := h
  refine ⟨xs, h1, fun c hc => Nat.le_trans hl (h2 c hc), fun i g hg => ?_⟩
  obtain ⟨gb, gc, a1, a2, a3⟩ := h3 i g hg
  exact ⟨gb, gc, a1, Nat.le_trans hl a2, a3⟩
theorem MO.keptD {D n : Nat} {of : Nat → Nat} {l : List Nat} {v : Value} {W W' : World} (h : MO (D + 1) n of l v W) (k : Kept (fun c => c ≠ D) W W') : MO (D + 1) n of l v W' := by
  obtain ⟨xs, h1, h2, h3⟩ := h
  refine ⟨xs, ownsRow_kept h1 k (fun c hc => by have := h2 c hc; omega), h2, fun i g hg => ?_⟩
  obtain ⟨gb, gc, a1, a2, a3, a4, a5, a6, a7⟩ := h3 i g hg
  exact ⟨gb, gc, a1, a2, Nat.lt_of_lt_of_le a3 k.size, a4, a5, a6, fun j hj => (k.cell (p := ⟨gb, j, none⟩) a3 (by show gb ≠ D; omega)).trans (a7 j hj)⟩
/-- What the model's loops know: l placed; D the marks' block; v the groups. -/
structure MB (e : List (List Int)) (of : Nat → Nat) (m n0 D : Nat) (l : List Nat) (v : Value) (W0 W : World) : Prop where
  sq : Gr.Sq e of m l
  fb : FB W D e.length (fun t => decide (of t ∈ l))
  mo : MO n0 e.length of l v W
  nv : v.ownBlock ≠ some D
  kp : Kept (fun c => c < D) W0 W
set_option maxHeartbeats 4000000 in
set_option maxRecDepth 100000 in
theorem m_groups {e : List (List Int)} {ea : Option Addr} {ec n0 : Nat} {of : Nat → Nat} {m : Nat} {W : World} (hp : Gr.Part e of m) (hn : e.length ≤ 1048576) (hr : ∀ (x : Nat) (r : List Int), e[x]? = some r → r.length ≤ 1048576) (he : EM e n0 ea W) (h0 : n0 ≤ W.heap.size) :
    Calls Try.prog 9 #[.slice ea e.length ec] W fun r W' => ∃ v, r = .returned v ∧ Hid (∃ l, Gr.Sq e of m l ∧ (∀ g, g < m → g ∈ l) ∧ MO W.heap.size e.length of l v W' ∧ Kept (fun c => c < W.heap.size) W W') := by
  obtain ⟨n, hnn⟩ : ∃ n, n = e.length := ⟨_, rfl⟩
  have hmk := run_make_bools n (by omega)
  have HC := hide (m_leads (ec := ec) hn hr he h0)
  have HN := hide hnn
  have HP := hide hp
  have HNB := hide hn
  have hnI : (n : Int) ≤ 1048576 := by omega
  rw [← hnn] at HC ⊢
  clear hnn hr he h0 hn hp
  go_enter Try.func9, Try.ntmps9
  go_upto_region 6 with (go_at_call 22; refine HC.out.mono ?_; rintro r W1 ⟨lv, rfl, h1⟩)
  obtain ⟨la, lc, rfl, l1, l2, l3⟩ := (HN.out ▸ h1.out.1 : LR e W.heap.size e.length lv W1).read
  obtain ⟨D, hD⟩ : ∃ D, D = W1.heap.size := ⟨_, rfl⟩
  obtain ⟨W2, hW2⟩ : ∃ W2, (W1.alloc (.cells (madeCells #[.bool false] n) 4)).alloc (.cells #[] 27) = W2 := ⟨_, rfl⟩
  rw [hW2, ← hD, ← HN.out]
  obtain ⟨A1, hA1⟩ : ∃ A1, W1.alloc (.cells (madeCells #[.bool false] n) 4) = A1 := ⟨_, rfl⟩
  rw [hA1] at hW2
  have z1 : A1.heap.size = D + 1 := by rw [← hA1, hD]; simp
  have z2 : W2.heap.size = D + 2 := by rw [← hW2]; simp [z1]
  have kA : Kept (fun _ => True) W1 A1 := by rw [← hA1]; exact Kept.alloc _ _ _
  have kB : Kept (fun _ => True) A1 W2 := by rw [← hW2]; exact Kept.alloc _ _ _
  have hWD : W.heap.size ≤ D := by rw [hD]; exact h1.out.2.size
  have hmb : MB e of m (D + 1) D [] (.slice (some ⟨D + 1, 0, none⟩) 0 0) W2 W2 := by
    refine ⟨.nil, ?_, ⟨[], ⟨rfl, .inr ⟨D + 1, 0, #[], rfl, Nat.zero_le _, ?_, Nat.le_refl _, by simp [maxLen], rfl, rfl⟩⟩, fun c hc => ?_, fun i g hg => by simp at hg⟩, fun e1 => ?_, Kept.refl _ _⟩
    · have : FB A1 D e.length (fun _ => false) := by rw [← hA1, hD, ← HN.out]; exact FB.made (heap_new _ _)
      have := this.kept kB trivial
      simpa using this
    · rw [← hW2, ← z1]; exact heap_new _ _
    · have : D + 1 = c := by simpa [Value.ownBlock] using hc
      omega
    · simp [Value.ownBlock] at e1
  have HKD : Hid (Kept (fun c => c < W.heap.size) W W2 ∧ W.heap.size ≤ D ∧ W2.heap.size = D + 2) := ⟨h1.out.2.trans ((kA.trans kB).mono (fun _ _ _ => trivial)), hWD, z2⟩
  have HLV : Hid (n = 0 ∨ ∃ b, la = some ⟨b, 0, none⟩ ∧ ∀ x, x < n → ∃ (rb : Nat) (row : Nat → Bool), (∀ y, y < n → (row y = true ↔ Gr.Ld e x y)) ∧ ∀ wz, Kept (fun c => c < D) W2 wz → wz.cell? ⟨b, x, none⟩ = some (.slice (some ⟨rb, 0, none⟩) n n) ∧ ∀ y, y < n → wz.cell? ⟨rb, y, none⟩ = some (.bool (row y))) := by
    rcases l3 with l3 | ⟨b, e1, e2, e3, e4⟩
    · left; rw [HN.out]; exact l3
    · right
      refine ⟨b, e1, fun x hx => ?_⟩
      obtain ⟨rb, row, a1, a2, a3, a4⟩ := e4 x (by rw [← HN.out]; exact hx)
      refine ⟨rb, row, fun y hy => (a4 y (by rw [← HN.out]; exact hy)).2, fun wz kz => ?_⟩
      have kw : Kept (fun c => c < D) W1 wz := ((kA.trans kB).mono (fun _ _ _ => trivial)).trans kz
      refine ⟨by rw [HN.out]; exact (kw.cell (p := ⟨b, x, none⟩) e3 (by show b < D; omega)).trans a1, fun y hy => (kw.cell (p := ⟨rb, y, none⟩) a3 (by show rb < D; omega)).trans (a4 y (by rw [← HN.out]; exact hy)).1⟩
  have HMB0 := hide hmb
  have hlc : (n : Int) ≤ (lc : Int) := by have := HN.out; omega
  clear h1 l1 l2 l3 hA1 hW2 z1 z2 kA kB hWD hmb hD HC
  go_loopg [6, 7, 8, 9, 10, 11, 12, 13] (n - 0) (fun g s6 s7 s8 s9 s10 s11 s12 s13 wr => ∃ (l : List Nat) (ct : Nat), s7 = .int .i64 (ct : Int) ∧ (∃ v, s8 = v) ∧ (∃ v, s9 = v) ∧ (∃ v, s10 = v) ∧ (∃ v, s11 = v) ∧ (∃ v, s12 = v) ∧ (∃ v, s13 = v) ∧ Hid (ct = Gr.dn n of l) ∧ Hid (g = n - ct) ∧ Hid (MB e of m (D + 1) D l s6 W2 wr))
  case atStart => exact ⟨[], 0, rfl, ⟨_, rfl⟩, ⟨_, rfl⟩, ⟨_, rfl⟩, ⟨_, rfl⟩, ⟨_, rfl⟩, ⟨_, rfl⟩, (Gr.dn_nil _ _).symm, rfl, HMB0.out⟩
  case round =>
  obtain ⟨l, ct, rfl, ⟨v8, rfl⟩, ⟨v9, rfl⟩, ⟨v10, rfl⟩, ⟨v11, rfl⟩, ⟨v12, rfl⟩, ⟨v13, rfl⟩, hct, hg, hM⟩ := hrel
  have HCT := hide hct.out
  have HG := hide hg.out
  have HM := hide hM.out
  clear hct hg hM
  by_cases hcn : ct < n
  · have hci : (ct : Int) < (n : Int) := by omega
    have hsome := Gr.dn_some (n := n) (of := of) (l := l) (by rw [← HCT.out]; exact hcn)
    have HSM := hide hsome
    clear hsome hmk
    go_upto_region 8 with fail
    go_loopw [6, 7, 8, 9, 10, 11, 12, 13] (fun s6 s7 s8 s9 s10 s11 s12 s13 wr => ∃ (i : Nat), s7 = .int .i64 (ct : Int) ∧ s8 = .int .i64 (i : Int) ∧ (∃ v, s9 = v) ∧ (∃ v, s10 = v) ∧ (∃ v, s11 = v) ∧ (∃ v, s12 = v) ∧ (∃ v, s13 = v) ∧ i ≤ n ∧ Hid (MB e of m (D + 1) D l s6 W2 wr) ∧ Hid (∀ j, j < i → of j ∈ l ∨ ¬ Gr.mrdy e (fun k => of k ∈ l) j)) (fun _ _ s8 _ _ _ _ _ _ => n - (intOf s8).toNat)
    case atStart => exact ⟨0, rfl, rfl, ⟨_, rfl⟩, ⟨_, rfl⟩, ⟨_, rfl⟩, ⟨_, rfl⟩, ⟨_, rfl⟩, Nat.zero_le _, HM.out, fun j hj => by omega⟩
    case round =>
    obtain ⟨i, rfl, rfl, ⟨v9, rfl⟩, ⟨v10, rfl⟩, ⟨v11, rfl⟩, ⟨v12, rfl⟩, ⟨v13, rfl⟩, hi, hM, hJ⟩ := hrel
    have HM2 := hide hM.out
    have HJ := hide hJ.out
    have HIN := hide hi
    clear hM hJ
    by_cases hin : i < n
    · have hii : (i : Int) < (n : Int) := by omega
      obtain ⟨cd, cdf⟩ := HM2.out.fb i (by rw [← HN.out]; exact hin)
      by_cases hil : of i ∈ l
      · have e1 : decide (of i ∈ l) = true := decide_eq_true hil
        dsimp only at cd
        rw [e1] at cd
        have HJ2 : Hid (∀ j, j < i + 1 → of j ∈ l ∨ ¬ Gr.mrdy e (fun k => of k ∈ l) j) := fun j hj => by
          by_cases e2 : j = i
          · left; rw [e2]; exact hil
          · exact HJ.out j (by omega)
        clear e1 hil
        go_wp2_with fail
        go_roundw
        case rel => exact ⟨i + 1, rfl, (by have h4 := HIN.out; have h5 := HNB.out; have := HN.out; go_num), ⟨_, rfl⟩, ⟨_, rfl⟩, ⟨_, rfl⟩, ⟨_, rfl⟩, ⟨_, rfl⟩, hin, HM2.out, HJ2.out⟩
        case measure => (have h4 := HIN.out; have h5 := HNB.out; have := HN.out; simp [intOf]; omega)
      · have e1 : decide (of i ∈ l) = false := decide_eq_false hil
        dsimp only at cd
        rw [e1] at cd
        have HIL := hide hil
        clear e1 hil
        go_upto_region 14 with fail
        obtain ⟨V1, hV1⟩ : ∃ V1, wr.alloc (.cells #[] 2) = V1 := ⟨_, rfl⟩
        obtain ⟨T, hT⟩ : ∃ T, T = wr.heap.size := ⟨_, rfl⟩
        rw [hV1, ← hT]
        have kv : Kept (fun _ => True) wr V1 := by rw [← hV1]; exact Kept.alloc _ _ _
        have hDT : D < T := by rw [hT]; exact block_lt_of_cell cd
        have hT1 : V1.heap.size = T + 1 := by rw [← hV1, hT]; simp
        have hi0 : IR2 V1 (.slice (some ⟨T, 0, none⟩) 0 0) (Gr.gm of 0 (of i)) := ⟨rfl, .inr ⟨T, 0, #[], rfl, Nat.zero_le _, by rw [← hV1, hT]; exact heap_new _ _, Nat.le_refl _, by simp [maxLen], rfl, rfl⟩⟩
        have HI0 := hide hi0
        have HMK : Hid (∀ wz, Kept (fun c => c < T) V1 wz → MB e of m (D + 1) D l u6 W2 wz) := fun wz kz => by
          have k9 : Kept (fun c => c < T) wr wz := (kv.mono (fun _ _ _ => trivial)).trans kz
          refine ⟨HM2.out.sq, HM2.out.fb.kept k9 hDT, ?_, HM2.out.nv, HM2.out.kp.trans (k9.mono (fun c _ h => by omega))⟩
          rw [hT] at k9
          exact HM2.out.mo.kept k9
        have HOL : Hid (∀ c, u6.ownBlock = some c → c < T) := by
          obtain ⟨xs, x1, -⟩ := HM2.out.mo
          intro c hc
          rw [hT]
          exact (World.ownsRow.lt x1 c hc).2
        have HDT := hide (And.intro hDT hT1)
        obtain ⟨b0, rfl, hlv⟩ := HLV.out.resolve_left (by omega)
        obtain ⟨rbi, rowi, ri1, ri2⟩ := hlv i hin
        have HRI := hide (And.intro ri1 ri2)
        have HRK := hide hlv
        clear hV1 hT kv hDT hT1 hi0 cd cdf ri1 ri2 hlv HLV
        go_loopw [9, 10, 11, 12] (fun s9 s10 s11 s12 wr => ∃ (k : Nat) (rd : Bool), s11 = .int .i64 (k : Int) ∧ (∃ v, s12 = v) ∧ s10 = .bool rd ∧ k ≤ n ∧ Hid (IR2 wr s9 (Gr.gm of k (of i))) ∧ Hid (∀ c, s9.ownBlock = some c → T ≤ c) ∧ Hid (rd = true ↔ ∀ j, j < k → of j ≠ of i → Gr.Ld e i j → of j ∈ l) ∧ Hid (Kept (fun c => c < T) V1 wr)) (fun _ _ s11 _ _ => n - (intOf s11).toNat)
        case atStart => exact ⟨0, true, rfl, ⟨_, rfl⟩, rfl, Nat.zero_le _, HI0.out, fun c hc => by
          have : T = c := by simpa [Value.ownBlock] using hc
          omega, ⟨fun _ j hj => by omega, fun _ => rfl⟩, Kept.refl _ _⟩
        case round =>
        obtain ⟨k, rd, rfl, ⟨v12, rfl⟩, rfl, hk, hI, hO, hQ, hK⟩ := hrel
        have HK1 := hide hK.out
        have HI1 := hide hI.out
        have HO1 := hide hO.out
        have HQ1 := hide hQ.out
        have HKN := hide hk
        clear hI hO hQ hK
        by_cases hkn : k < n
        · have hki : (k : Int) < (n : Int) := by omega
          have kD : Kept (fun c => c < D) W2 wr := (HMK.out wr HK1.out).kp
          obtain ⟨ci1, ci2⟩ := HRI.out.2 wr kD
          have cik := ci2 k hkn
          obtain ⟨rbk, rowk, rk1, rk2⟩ := HRK.out k hkn
          obtain ⟨ck1, ck2⟩ := rk2 wr kD
          have cki := ck2 i hin
          obtain ⟨cd, -⟩ := (HMK.out wr HK1.out).fb k (by rw [← HN.out]; exact hkn)
          dsimp only at cd
          have honeq := Gr.one_iff HP.out (i := i) (k := k) (by rw [← HN.out]; exact hin) (by rw [← HN.out]; exact hkn)
          rw [← HRI.out.1 k hkn, ← rk1 i hin] at honeq
          have hldi := HRI.out.1 k hkn
          clear ci2 rk2 ck2 rk1 kD
          have knat : ((k : Int) == (i : Int)) = decide (k = i) := by
            by_cases e1 : k = i
            · subst e1; simp
            · simp [e1]; omega
          by_cases hki2 : k = i
          · have g1 : ((k : Int) == (i : Int)) = true := by rw [knat]; exact decide_eq_true hki2
            clear knat
            have HOF : Hid (of k = of i) := honeq.1 (.inl hki2)
            obtain ⟨V2, hV2⟩ : ∃ V2, wr.alloc (.cells #[.int .i64 (k : Int)] 2) = V2 := ⟨_, rfl⟩
            have k2 : Kept (fun _ => True) wr V2 := by rw [← hV2]; exact Kept.alloc _ _ _
            obtain ⟨q, hq⟩ : ∃ q, q = (Gr.gm of k (of i)).length := ⟨_, rfl⟩
            have hqk : q ≤ k := by
              rw [hq]
              have := List.length_filter_le (fun t => of t == of i) (List.range k)
              rw [List.length_range] at this
              exact this
            have HN2 : Hid (V2.heap[wr.heap.size]? = some (.cells #[.int .i64 (k : Int)] 2)) := by unfold Hid; rw [← hV2]; exact heap_new _ _
            have HR2 : Hid (V2.ownsRow 0 2 1 u9 q ((Gr.gm of k (of i)).map iv)) := by rw [hq]; exact ownsRow_kept HI1.out k2 (fun _ _ => trivial)
            have HM3 : Hid (q + 1 ≤ maxLen ∧ (q + 1) * 8 ≤ 140737488355328) := by have := HNB.out; have := HN.out; unfold Hid maxLen; omega
            have HT4 : Hid (∀ b cap W6, V2.grownBy W6 u9.ownBlock → W6.ownsRow 0 2 1 (.slice (some ⟨b, 0, none⟩) (q + 1) cap) (q + 1) ((Gr.gm of k (of i)).map iv ++ [.int .i64 (k : Int)]) → (u9.ownBlock = some b ∨ b = V2.heap.size) → IR2 W6 (.slice (some ⟨b, 0, none⟩) (q + 1) cap) (Gr.gm of (k + 1) (of i)) ∧ (∀ c, (Value.slice (some ⟨b, 0, none⟩) (q + 1) cap).ownBlock = some c → T ≤ c) ∧ Kept (fun c => c < T) V1 W6) := by
              intro b cap W6 hG hO hat
              have k6 : Kept (fun c => u9.ownBlock ≠ some c) wr W6 := (k2.mono (fun _ _ _ => trivial)).trans (Kept.grown hG (fun k hk hn => hn hk))
              refine ⟨?_, fun c hc => ?_, HK1.out.trans (k6.mono (fun c _ h e1 => by have := HO1.out c e1; omega))⟩
              · unfold IR2
                rw [Gr.gm_succ, if_pos HOF.out, List.map_append, List.length_append, ← hq]
                exact hO
              · have e2 : b = c := by simpa [Value.ownBlock] using hc
                rw [← e2]
                rcases hat with e3 | e3
                · exact HO1.out b e3
                · have h1 := HDT.out.2; have h2 := HK1.out.size; have h3 := k2.size; omega
            have HQ2 : Hid (rd = true ↔ ∀ j, j < k + 1 → of j ≠ of i → Gr.Ld e i j → of j ∈ l) := HQ1.out.trans ⟨fun h j hj hn hl => by
              by_cases e1 : j = k
              · subst e1; exact absurd HOF.out hn
              · exact h j (by omega) hn hl, fun h j hj => h j (by omega)⟩
            have HV2 := hide hV2
            clear hV2 k2 hq hqk honeq hldi hki2
            go_upto_region 19 with (at_builtin; rw [HV2.out]; refine ur_stepL rfl _ _ 27 2 rfl Try.info2 Try.underlying27 rfl (by decide) 0 V2 u9 q ((Gr.gm of k (of i)).map iv) [.int .i64 (k : Int)] wr.heap.size 1 rfl rfl (Nat.zero_le _) HR2.out HN2.out rfl (by simp [Value.oneCell']) HM3.out.1 HM3.out.2 ?_; intro b cap W6 hO4 hG4 hat4; have Y := hide (HT4.out b cap W6 hG4 hO4 hat4); clear hO4 hG4 hat4)
            clear cd cik cki ci1 ck1
            go_wp2_with fail
            go_roundw
            case rel => exact ⟨k + 1, rd, (by have h4 := HKN.out; have h5 := HNB.out; have := HN.out; go_num), ⟨_, rfl⟩, rfl, hkn, Y.out.1, Y.out.2.1, HQ2.out, Y.out.2.2⟩
            case measure => (have h4 := HKN.out; have h5 := HNB.out; have := HN.out; simp [intOf]; omega)
          · have g1 : ((k : Int) == (i : Int)) = false := by rw [knat]; exact decide_eq_false hki2
            clear knat
            cases hb1 : rowi k with
            | false =>
              have HOF : Hid (of k ≠ of i) := fun e1 => by
                rcases honeq.2 e1 with h | h
                · exact hki2 h
                · rw [hb1] at h; simp at h
              have HYES : Hid (Gr.Ld e i k → of k ∈ l) := fun h => by have := hldi.2 h; rw [hb1] at this; simp at this
              rw [hb1] at cik
              clear hb1 honeq hldi hki2
              have HI2 : Hid (IR2 wr u9 (Gr.gm of (k + 1) (of i))) := by unfold Hid; rw [Gr.gm_succ, if_neg HOF.out]; exact HI1.out
              have HQ2 : Hid (rd = true ↔ ∀ j, j < k + 1 → of j ≠ of i → Gr.Ld e i j → of j ∈ l) := HQ1.out.trans ⟨fun h j hj hn hl => by
                by_cases e1 : j = k
                · subst e1; exact HYES.out hl
                · exact h j (by omega) hn hl, fun h j hj => h j (by omega)⟩
              go_wp2_with fail
              go_roundw
              case rel => exact ⟨k + 1, rd, (by have h4 := HKN.out; have h5 := HNB.out; have := HN.out; go_num), ⟨_, rfl⟩, rfl, hkn, HI2.out, HO1.out, HQ2.out, HK1.out⟩
              case measure => (have h4 := HKN.out; have h5 := HNB.out; have := HN.out; simp [intOf]; omega)
            | true =>
              rw [hb1] at cik
              cases hb2 : rowk i with
              | true =>
                rw [hb2] at cki
                have HOF : Hid (of k = of i) := honeq.1 (.inr ⟨hb1, hb2⟩)
                obtain ⟨V2, hV2⟩ : ∃ V2, wr.alloc (.cells #[.int .i64 (k : Int)] 2) = V2 := ⟨_, rfl⟩
                have k2 : Kept (fun _ => True) wr V2 := by rw [← hV2]; exact Kept.alloc _ _ _
                obtain ⟨q, hq⟩ : ∃ q, q = (Gr.gm of k (of i)).length := ⟨_, rfl⟩
                have hqk : q ≤ k := by
                  rw [hq]
                  have := List.length_filter_le (fun t => of t == of i) (List.range k)
                  rw [List.length_range] at this
                  exact this
                have HN2 : Hid (V2.heap[wr.heap.size]? = some (.cells #[.int .i64 (k : Int)] 2)) := by unfold Hid; rw [← hV2]; exact heap_new _ _
                have HR2 : Hid (V2.ownsRow 0 2 1 u9 q ((Gr.gm of k (of i)).map iv)) := by rw [hq]; exact ownsRow_kept HI1.out k2 (fun _ _ => trivial)
                have HM3 : Hid (q + 1 ≤ maxLen ∧ (q + 1) * 8 ≤ 140737488355328) := by have := HNB.out; have := HN.out; unfold Hid maxLen; omega
                have HT4 : Hid (∀ b cap W6, V2.grownBy W6 u9.ownBlock → W6.ownsRow 0 2 1 (.slice (some ⟨b, 0, none⟩) (q + 1) cap) (q + 1) ((Gr.gm of k (of i)).map iv ++ [.int .i64 (k : Int)]) → (u9.ownBlock = some b ∨ b = V2.heap.size) → IR2 W6 (.slice (some ⟨b, 0, none⟩) (q + 1) cap) (Gr.gm of (k + 1) (of i)) ∧ (∀ c, (Value.slice (some ⟨b, 0, none⟩) (q + 1) cap).ownBlock = some c → T ≤ c) ∧ Kept (fun c => c < T) V1 W6) := by
                  intro b cap W6 hG hO hat
                  have k6 : Kept (fun c => u9.ownBlock ≠ some c) wr W6 := (k2.mono (fun _ _ _ => trivial)).trans (Kept.grown hG (fun k hk hn => hn hk))
                  refine ⟨?_, fun c hc => ?_, HK1.out.trans (k6.mono (fun c _ h e1 => by have := HO1.out c e1; omega))⟩
                  · unfold IR2
                    rw [Gr.gm_succ, if_pos HOF.out, List.map_append, List.length_append, ← hq]
                    exact hO
                  · have e2 : b = c := by simpa [Value.ownBlock] using hc
                    rw [← e2]
                    rcases hat with e3 | e3
                    · exact HO1.out b e3
                    · have h1 := HDT.out.2; have h2 := HK1.out.size; have h3 := k2.size; omega
                have HQ2 : Hid (rd = true ↔ ∀ j, j < k + 1 → of j ≠ of i → Gr.Ld e i j → of j ∈ l) := HQ1.out.trans ⟨fun h j hj hn hl => by
                  by_cases e1 : j = k
                  · subst e1; exact absurd HOF.out hn
                  · exact h j (by omega) hn hl, fun h j hj => h j (by omega)⟩
                have HV2 := hide hV2
                clear hV2 k2 hq hqk honeq hldi hb1 hb2 hki2
                go_upto_region 19 with (at_builtin; rw [HV2.out]; refine ur_stepL rfl _ _ 27 2 rfl Try.info2 Try.underlying27 rfl (by decide) 0 V2 u9 q ((Gr.gm of k (of i)).map iv) [.int .i64 (k : Int)] wr.heap.size 1 rfl rfl (Nat.zero_le _) HR2.out HN2.out rfl (by simp [Value.oneCell']) HM3.out.1 HM3.out.2 ?_; intro b cap W6 hO4 hG4 hat4; have Y := hide (HT4.out b cap W6 hG4 hO4 hat4); clear hO4 hG4 hat4)
                clear cd cik cki ci1 ck1
                go_wp2_with fail
                go_roundw
                case rel => exact ⟨k + 1, rd, (by have h4 := HKN.out; have h5 := HNB.out; have := HN.out; go_num), ⟨_, rfl⟩, rfl, hkn, Y.out.1, Y.out.2.1, HQ2.out, Y.out.2.2⟩
                case measure => (have h4 := HKN.out; have h5 := HNB.out; have := HN.out; simp [intOf]; omega)
              | false =>
                rw [hb2] at cki
                have HOF : Hid (of k ≠ of i) := fun e1 => by
                  rcases honeq.2 e1 with h | h
                  · exact hki2 h
                  · rw [hb2] at h; simp at h
                have HLD : Hid (Gr.Ld e i k) := hldi.1 hb1
                by_cases hkl : of k ∈ l
                · rw [decide_eq_true hkl] at cd
                  have HYES : Hid (Gr.Ld e i k → of k ∈ l) := fun _ => hkl
                  clear hb1 hb2 honeq hldi hki2 hkl
                  have HI2 : Hid (IR2 wr u9 (Gr.gm of (k + 1) (of i))) := by unfold Hid; rw [Gr.gm_succ, if_neg HOF.out]; exact HI1.out
                  have HQ2 : Hid (rd = true ↔ ∀ j, j < k + 1 → of j ≠ of i → Gr.Ld e i j → of j ∈ l) := HQ1.out.trans ⟨fun h j hj hn hl => by
                    by_cases e1 : j = k
                    · subst e1; exact HYES.out hl
                    · exact h j (by omega) hn hl, fun h j hj => h j (by omega)⟩
                  go_wp2_with fail
                  go_roundw
                  case rel => exact ⟨k + 1, rd, (by have h4 := HKN.out; have h5 := HNB.out; have := HN.out; go_num), ⟨_, rfl⟩, rfl, hkn, HI2.out, HO1.out, HQ2.out, HK1.out⟩
                  case measure => (have h4 := HKN.out; have h5 := HNB.out; have := HN.out; simp [intOf]; omega)
                · rw [decide_eq_false hkl] at cd
                  have HNO := hide hkl
                  clear hb1 hb2 honeq hldi hki2 hkl
                  have HI2 : Hid (IR2 wr u9 (Gr.gm of (k + 1) (of i))) := by unfold Hid; rw [Gr.gm_succ, if_neg HOF.out]; exact HI1.out
                  have HQ2 : Hid (false = true ↔ ∀ j, j < k + 1 → of j ≠ of i → Gr.Ld e i j → of j ∈ l) := ⟨fun h => by simp at h, fun h => absurd (h k (by omega) HOF.out HLD.out) HNO.out⟩
                  go_wp2_with fail
                  go_roundw
                  case rel => exact ⟨k + 1, false, (by have h4 := HKN.out; have h5 := HNB.out; have := HN.out; go_num), ⟨_, rfl⟩, rfl, hkn, HI2.out, HO1.out, HQ2.out, HK1.out⟩
                  case measure => (have h4 := HKN.out; have h5 := HNB.out; have := HN.out; simp [intOf]; omega)
        · have hki : ¬ (k : Int) < (n : Int) := by omega
          have hkn2 : k = n := by omega
          have HIG : Hid (IR2 wr u9 (Gr.gm of n (of i))) := hkn2 ▸ HI1.out
          have HASK : Hid (rd = true ↔ Gr.mrdy e (fun k => of k ∈ l) i) := HQ1.out.trans ((by rw [hkn2, HN.out] : (∀ j, j < k → of j ≠ of i → Gr.Ld e i j → of j ∈ l) ↔ (∀ j, j < e.length → of j ≠ of i → Gr.Ld e i j → of j ∈ l)).trans (Gr.ask_iff HP.out (by rw [← HN.out]; exact hin) (fun k => of k ∈ l)))
          clear hkn2
          cases hrd : rd with
          | false =>
            have HJ2 : Hid (∀ j, j < i + 1 → of j ∈ l ∨ ¬ Gr.mrdy e (fun k => of k ∈ l) j) := fun j hj => by
              by_cases e2 : j = i
              · right; rw [e2]; intro h; have := HASK.out.2 h; rw [hrd] at this; simp at this
              · exact HJ.out j (by omega)
            clear hrd
            go_wp2_with fail
            go_roundw
            case rel => exact ⟨i + 1, rfl, (by have h4 := HIN.out; have h5 := HNB.out; have := HN.out; go_num), ⟨_, rfl⟩, ⟨_, rfl⟩, ⟨_, rfl⟩, ⟨_, rfl⟩, ⟨_, rfl⟩, hin, HMK.out wr HK1.out, HJ2.out⟩
            case measure => (have h4 := HIN.out; have h5 := HNB.out; have := HN.out; simp [intOf]; omega)
          | true =>
            have HX : Hid (Gr.Nx e of m (· ∈ l) (of i)) := HP.out.next HM2.out.sq (by rw [← HN.out]; exact hin) HIL.out (HASK.out.1 hrd) HJ.out
            clear hrd
            go_upto_region 23 with fail
            obtain ⟨ga, gc, hu9, w1, w2, w3⟩ := HIG.out.form
            subst hu9
            have hmem : ∀ t, t ∈ Gr.gm of n (of i) ↔ t < n ∧ of t = of i := fun t => by unfold Gr.gm; simp
            have hne : Gr.gm of n (of i) ≠ [] := fun e1 => by
              have := (hmem i).2 ⟨hin, rfl⟩
              rw [e1] at this; simp at this
            obtain ⟨gb, rfl, hgl⟩ := w3.resolve_left hne
            have hgT : T ≤ gb := HO1.out gb rfl
            obtain ⟨q, hq⟩ : ∃ q, q = (Gr.gm of n (of i)).length := ⟨_, rfl⟩
            have hq0 : 0 < q := by rw [hq]; exact List.length_pos_iff.2 hne
            have hqn : q ≤ n := by
              rw [hq]
              have := List.length_filter_le (fun t => of t == of i) (List.range n)
              rw [List.length_range] at this
              exact this
            obtain ⟨Wc, hWc⟩ : ∃ Wc, Wc = wr := ⟨_, rfl⟩
            subst hWc
            have HCL : Hid (∀ j, j < q → ∃ x, (Gr.gm of n (of i))[j]? = some x ∧ x < n ∧ ∀ wz, Kept (fun c => c ≠ D) Wc wz → wz.cell? ⟨gb, j, none⟩ = some (.int .i64 (x : Int))) := fun j hj => by
              have hj2 : j < (Gr.gm of n (of i)).length := by rw [← hq]; exact hj
              have c1 := (HIG.out.cell j hj2).2
              have hx : (Gr.gm of n (of i))[j]? = some (Gr.gm of n (of i))[j] := List.getElem?_eq_getElem hj2
              refine ⟨_, hx, ((hmem _).1 (List.getElem_mem hj2)).1, fun wz kz => ?_⟩
              rw [kz.cell (p := ⟨gb, j, none⟩) hgl (by have := HDT.out.1; show gb ≠ D; omega), c1]
              simp [hj2, iv]
            have HF0 : Hid (FB Wc D e.length (fun t => decide (of t ∈ l ∨ t ∈ (Gr.gm of n (of i)).take 0))) := by
              have := (HMK.out Wc HK1.out).fb
              simpa [Hid] using this
            have HQN := hide (And.intro hq (And.intro hq0 (And.intro hqn (And.intro hgT (And.intro w1 w2)))))
            have HMEM := hide hmem
            rw [← hq]
            clear hq hmem hne hgl hgT hq0 w1 w2 w3
            go_loopw [13] (fun s13 wz => ∃ (j : Nat), s13 = .int .i64 (j : Int) ∧ j ≤ q ∧ Hid (FB wz D e.length (fun t => decide (of t ∈ l ∨ t ∈ (Gr.gm of n (of i)).take j))) ∧ Hid (Kept (fun c => c ≠ D) Wc wz)) (fun s13 _ => q - (intOf s13).toNat)
            case atStart => exact ⟨0, rfl, Nat.zero_le _, HF0.out, Kept.refl _ _⟩
            case round =>
            obtain ⟨j, rfl, hj, hF, hKd⟩ := hrel
            have HJQ := hide hj
            have HF := hide hF.out
            have HKd := hide hKd.out
            clear hF hKd
            have hqI : (q : Int) ≤ 1048576 := by have := HNB.out; have := HN.out; omega
            by_cases hjq : j < q
            · have hji : (j : Int) < (q : Int) := by omega
              obtain ⟨x, x1, x2, x3⟩ := HCL.out j hjq
              have cx := x3 wr HKd.out
              have hxi : (x : Int) < (n : Int) := by omega
              obtain ⟨cb, cbf⟩ := HF.out x (by rw [← HN.out]; exact x2)
              have HF2 : Hid (FB (wr.setCell ⟨D, x, none⟩ (.bool true)) D e.length (fun t => decide (of t ∈ l ∨ t ∈ (Gr.gm of n (of i)).take (j + 1)))) := HF.out.set true (fun t _ => by
                rw [List.take_add_one, x1]
                by_cases e1 : t = x
                · subst e1; simp
                · simp [e1])
              have HK2 : Hid (Kept (fun c => c ≠ D) Wc (wr.setCell ⟨D, x, none⟩ (.bool true))) := HKd.out.trans (Kept.setCell _ _ _ _ (by simp))
              clear x1 x2 x3
              go_wp2_with fail
              go_roundw
              case rel => exact ⟨j + 1, (by have h4 := HJQ.out; have h5 := hqI; go_num), hjq, HF2.out, HK2.out⟩
              case measure => (have h4 := HJQ.out; simp [intOf]; omega)
            · have hji : ¬ (j : Int) < (q : Int) := by omega
              have hjq2 : j = q := by omega
              have hMc := HMK.out Wc HK1.out
              have hfb : FB wr D e.length (fun t => decide (of t ∈ l ++ [of i])) := fun t ht => by
                obtain ⟨h1, h2⟩ := HF.out t ht
                refine ⟨h1.trans ?_, h2⟩
                congr 2
                rw [hjq2, HQN.out.1, List.take_length]
                have h3 := HMEM.out t
                have h4 : t < n := by rw [HN.out]; exact ht
                simp only [List.mem_append, List.mem_singleton, h3, h4, true_and]
              obtain ⟨xs, x1, x2, x3⟩ := hMc.mo.keptD HKd.out
              obtain ⟨V2, hV2⟩ : ∃ V2, wr.alloc (.cells #[.slice (some ⟨gb, 0, none⟩) q gc] 27) = V2 := ⟨_, rfl⟩
              have k2 : Kept (fun _ => True) wr V2 := by rw [← hV2]; exact Kept.alloc _ _ _
              have HN2 : Hid (V2.heap[wr.heap.size]? = some (.cells #[.slice (some ⟨gb, 0, none⟩) q gc] 27)) := by unfold Hid; rw [← hV2]; exact heap_new _ _
              have HR2 : Hid (V2.ownsRow 0 27 1 u6 l.length xs) := ownsRow_kept x1 k2 (fun _ _ => trivial)
              have hlm : l.length < m := by
                have hsq := Gr.Sq.snoc HM2.out.sq HX.out
                have := Gr.nodup_sub (l := l ++ [of i]) (m := List.range m) hsq.nodup (fun g hg => List.mem_range.2 (hsq.lt g hg))
                simp at this; omega
              have hmn := groups_le HP.out
              have HM3 : Hid (l.length + 1 ≤ maxLen ∧ (l.length + 1) * 24 ≤ 140737488355328) := by have := HNB.out; unfold Hid maxLen; omega
              have hig := HIG.out.kept HKd.out (fun c hc => by have := HO1.out c hc; have := HDT.out.1; omega)
              have hdn : ct + q = Gr.dn n of (l ++ [of i]) := by rw [Gr.dn_snoc HIL.out, HQN.out.1, HCT.out]
              have HDN := hide hdn
              have HT4 : Hid (∀ b cap W4, V2.grownBy W4 u6.ownBlock → W4.ownsRow 0 27 1 (.slice (some ⟨b, 0, none⟩) (l.length + 1) cap) (l.length + 1) (xs ++ [.slice (some ⟨gb, 0, none⟩) q gc]) → (u6.ownBlock = some b ∨ b = V2.heap.size) → MB e of m (D + 1) D (l ++ [of i]) (.slice (some ⟨b, 0, none⟩) (l.length + 1) cap) W2 W4) := by
                intro b cap W4 hG hO hat
                rw [HQN.out.1] at hO
                have hx := MO.push (n := e.length) (of := of) (g := of i) (gb := gb) (gc := gc) x1 x2 x3 ⟨by have := HQN.out.2.2.2.1; have := HDT.out.1; omega, fun e1 => ?_⟩ (by rw [← HN.out]; exact hig) (by rw [← HN.out, ← HQN.out.1]; exact ⟨by have := HQN.out.2.2.2.2.1; rw [HQN.out.1]; exact this, HQN.out.2.2.2.2.2⟩) k2 hG (by rw [← HN.out]; exact hO) hat
                · refine ⟨.snoc HM2.out.sq HX.out, hfb.kept hx.2 (fun e1 => by have := x2 D e1; omega), hx.1, fun e1 => ?_, (hMc.kp.trans (HKd.out.mono (fun c _ h => by omega))).trans (hx.2.mono (fun c _ h e1 => by have := x2 c e1; omega))⟩
                  obtain ⟨ys, y1, y2, -⟩ := hx.1
                  have := y2 D e1
                  omega
                · have h1 := HOL.out gb e1; have h2 := HQN.out.2.2.2.1; omega
              have HV2 := hide hV2
              clear hfb x1 x2 x3 k2 hV2 hig hdn hMc hlm hmn hjq2
              have hqI2 : (ct : Int) + (q : Int) ≤ 3000000 := by have := HNB.out; have := HN.out; omega
              go_wp2_with (at_builtin; rw [HV2.out]; refine ur_stepL rfl _ _ 23 27 rfl Try.info27 Try.underlying23 rfl (by decide) 0 V2 u6 l.length xs [.slice (some ⟨gb, 0, none⟩) q gc] wr.heap.size 1 rfl rfl (Nat.zero_le _) HR2.out HN2.out rfl (by simp [Value.oneCell']) HM3.out.1 HM3.out.2 ?_; intro b cap W4 hO4 hG4 hat4; have Y := hide (HT4.out b cap W4 hG4 hO4 hat4); clear hO4 hG4 hat4)
              go_roundg (n - (ct + q))
              case measure => rw [HG.out]; have := HQN.out.2.1; omega
              case rel => exact ⟨l ++ [of i], ct + q, (by go_num), ⟨_, rfl⟩, ⟨_, rfl⟩, ⟨_, rfl⟩, ⟨_, rfl⟩, ⟨_, rfl⟩, ⟨_, rfl⟩, HDN.out, rfl, Y.out⟩
    · exfalso
      have hin2 : i = n := by omega
      obtain ⟨t, ht, hnl⟩ := HSM.out
      obtain ⟨j, a1, a2, a3⟩ := HP.out.found HM2.out.sq (i := t) (by rw [← HN.out]; exact ht) hnl
      rcases HJ.out j (by rw [hin2, HN.out]; exact a1) with b1 | b1
      · exact a2 b1
      · exact b1 a3
  · have hci : ¬ (ct : Int) < (n : Int) := by omega
    have hall : ∀ g, g < m → g ∈ l := fun g hg => by
      obtain ⟨t, ht, rfl⟩ := HP.out.ne g hg
      exact Gr.dn_all (n := n) (by rw [← HCT.out]; omega) t (by rw [HN.out]; exact ht)
    have HALL := hide hall
    clear hall hmk
    go_wp2_with fail
    go_ret
    exact ⟨_, rfl, l, HM.out.sq, HALL.out, by rw [HN.out]; exact HM.out.mo.mono (by have := HKD.out.2.1; omega), HKD.out.1.trans (HM.out.kp.mono (fun c _ h => by have := HKD.out.2.1; omega))⟩
end Go.Proofs.Ytmnligaelihmiaa
