import Derived.Test.YtmnligaelihmiaaGx
namespace Go.Proofs.Ytmnligaelihmiaa
open Go.RowKit Go.Joins
theorem SS.t0 {e : List (List Int)} {n0 m : Nat} {ea : Option Addr} {ec GB : Nat} {A : GA} {of : Nat → Nat} {G : Nat → List Nat} {pl : Nat → Bool} {l : List Nat} {tg : Nat → Nat} {pend : List Nat} {W : World} (h : SS e n0 m ea ec GB A of G pl l tg pend W) : ∀ c, c < n0 → tg c = 0 := by
  obtain ⟨st, nx, left, wv, wait, hv, H, hm, -, -⟩ := h
  exact hm.t0
set_option maxHeartbeats 4000000 in
set_option maxRecDepth 100000 in
theorem i_groups {e : List (List Int)} {ea : Option Addr} {ec : Nat} {W : World} (hn : e.length ≤ 1048576) (hr : ∀ (x : Nat) (r : List Int), e[x]? = some r → r.length ≤ 1048576) (he : EM e W.heap.size ea W) :
    Calls Try.prog 6 #[.slice ea e.length ec] W fun r W' => ∃ v, r = .returned v ∧ Hid (∃ of m l G, Gr.Part e of m ∧ Gr.Sq e of m l ∧ l.length = m ∧ (∀ g, g < m → g ∈ l) ∧ (∀ g, g < m → G g = Gr.gm of e.length g) ∧ AnsO W.heap.size G l v W' ∧ Kept (fun c => c < W.heap.size) W W') := by
  obtain ⟨n, hnn⟩ : ∃ n, n = e.length := ⟨_, rfl⟩
  have HC1 := hide (i_new (ec := ec) hn hr he)
  rw [← hnn] at HC1 ⊢
  have HN := hide hnn
  have HR := hide hr
  have HNB := hide hn
  have hnI : (n : Int) ≤ 1048576 := by omega
  clear hnn hr he hn
  go_enter Try.func6, Try.ntmps6
  go_upto_region 3 with (go_at_call 16; refine HC1.out.mono ?_; rintro r W1 ⟨GB, rfl, h1⟩)
  obtain ⟨of, m, A, tg0, G, hp, hgm, hL, hk⟩ := h1.out
  have hSS : SS e W.heap.size m ea ec GB A of G (fun _ => false) [] tg0 (List.range e.length) W1 := ⟨_, _, _, _, _, _, [], hgm, Gr.WI.start hp (fun g hg => by rw [hL g hg]; rfl), fun k a b => by simp at b⟩
  have HP := hide hp
  have HL := hide hL
  have HS0 := hide hSS
  have HK0 := hide hk
  clear h1 hp hgm hL hk hSS HC1
  go_loopw [11, 4] (fun s11 s4 wr => ∃ (i : Nat) (tgk : Nat → Nat), s11 = .int .i64 (i : Int) ∧ (∃ v, s4 = v) ∧ i ≤ n ∧ Hid (SS e W.heap.size m ea ec GB A of G (fun _ => false) [] tgk ((List.range e.length).drop i) wr) ∧ Hid (Kept (fun c => c < W.heap.size) W wr)) (fun s11 _ _ => n - (intOf s11).toNat)
  case atStart => exact ⟨0, tg0, rfl, ⟨_, rfl⟩, Nat.zero_le _, HS0.out, HK0.out⟩
  case round =>
    obtain ⟨i, tgk, rfl, ⟨v4, rfl⟩, hi, hS1, hK1⟩ := hrel
    have HIN := hide hi
    by_cases hin : i < n
    · have hii : (i : Int) < (n : Int) := by omega
      have hd : (List.range e.length).drop i = i :: (List.range e.length).drop (i + 1) := by
        rw [List.drop_eq_getElem_cons (by simp; rw [← HN.out]; exact hin)]
        simp
      have HS1 : Hid (SS e W.heap.size m ea ec GB A of G (fun _ => false) [] tgk (i :: (List.range e.length).drop (i + 1)) wr) := by unfold Hid; rw [← hd]; exact hS1.out
      have HC := hide (i_settle HNB.out HR.out (fun g _ => by simp) HS1.out)
      have HK1 := hide hK1.out
      clear hd hS1 hK1
      go_wp2_with (go_at_call 17; refine HC.out.mono ?_; rintro r W5 ⟨rfl, tg5, h5⟩)
      go_roundw
      case rel => exact ⟨i + 1, tg5, (by have h4 := HIN.out; have h5 := HNB.out; go_num), ⟨_, rfl⟩, hin, h5.ss, HK1.out.trans (h5.kp.mono (fun c _ h => by have := HS1.out.t0 c h; unfold KS; omega))⟩
      case measure => (have h4 := HIN.out; have h5 := HNB.out; simp [intOf]; omega)
    · have hii : ¬ (i : Int) < (n : Int) := by omega
      have hin2 : i = n := by omega
      have HS1 : Hid (SS e W.heap.size m ea ec GB A of G (fun _ => false) [] tgk [] wr) := by
        have := hS1.out
        rw [hin2, HN.out, List.drop_eq_nil_of_le (by simp)] at this
        exact this
      have HK1 := hide hK1.out
      clear hS1 hK1 hin2
      have hQ0 : Q2 e W.heap.size m ea ec GB A of G [] tgk (.slice none 0 0) wr := ⟨_, HS1.out, fun g _ => by simp, ⟨[], ⟨rfl, .inl ⟨rfl, rfl⟩⟩, fun i g hg => by simp at hg⟩, fun c hc => by simp [Value.ownBlock] at hc⟩
      have HQ0 := hide hQ0
      clear hQ0 HS1
      go_upto_region 8 with fail
      go_loopg [5, 6] (m - 0) (fun g s5 s6 wr => ∃ (l : List Nat) (tgk : Nat → Nat), (∃ v, s6 = v) ∧ Hid (g = m - l.length) ∧ Hid (Q2 e W.heap.size m ea ec GB A of G l tgk s5 wr) ∧ Hid (Kept (fun c => c < W.heap.size) W wr))
      case atStart => exact ⟨[], tgk, ⟨_, rfl⟩, rfl, HQ0.out, HK1.out⟩
      case round =>
        obtain ⟨l, tgl, ⟨v6, rfl⟩, hg, hQ, hKQ⟩ := hrel
        obtain ⟨pl, ⟨st, nx, left, wv, wait, hv, H, hm, hw, hh⟩, hpl, hov⟩ := hQ.out
        have hHm := heap_len hw
        have hmn := groups_le hw.pt
        have d7 := hm.bx.cel 7 _ rfl
        obtain ⟨ha, hc, rfl, q1, q2, q3⟩ := hm.rd.shape
        obtain ⟨N, hNN⟩ : ∃ N, N = H.length := ⟨_, rfl⟩
        rw [← hNN] at d7
        by_cases hN0 : N = 0
        · have z1 : ¬ (N : Int) > 0 := by omega
          have hH : H = [] := List.eq_nil_of_length_eq_zero (by omega)
          obtain ⟨f1, f2⟩ := (hH ▸ hw).fin
          have HF := hide (And.intro (And.intro hw.pt hw.sq) (And.intro f1 f2))
          have HANS := hide hQ.out.ans
          have HKQ := hide hKQ.out
          clear hQ hm hw hh hpl hov hKQ hH f1 f2 hN0 q1 q2 q3 hNN
          go_wp2_with (go_at_call 18; refine (He.len_any _ _ _ _).mono ?_; rintro r W5 ⟨rfl, rfl⟩)
          go_ret
          exact ⟨_, rfl, of, m, l, G, HF.out.1.1, HF.out.1.2, HF.out.2.1, HF.out.2.2, by rw [HN.out]; exact HL.out, HANS.out, HKQ.out⟩
        · have z1 : (N : Int) > 0 := by omega
          obtain ⟨hb, rfl, -, -⟩ := q3.resolve_left (fun e1 => by rw [e1] at hNN; simp at hNN; omega)
          obtain ⟨p, hp⟩ : ∃ p, N = p + 1 := ⟨N - 1, by omega⟩
          have hhb := hm.hb (by have := HNB.out; omega)
          rw [← hNN] at hhb
          obtain ⟨gg, hgg⟩ : ∃ gg, gg = He.g H 0 := ⟨_, rfl⟩
          have HT := hide (He.take19 GB 7 0 hb N p hc H wr hhb hNN hp (by omega) hh)
          rw [← hgg] at HT
          have hgH : gg ∈ H := by
            rw [hgg]
            cases H with
            | nil => simp at hNN; omega
            | cons x t => simp [He.g]
          have hx := hw.next hgH (fun k hk => by rw [hgg]; exact hh.first k hk)
          have hsq := Gr.Sq.snoc hw.sq hx
          have hlm : l.length < m := by
            have := Gr.nodup_sub (l := l ++ [gg]) (m := List.range m) hsq.nodup (fun g hg => List.mem_range.2 (hsq.lt g hg))
            simp at this; omega
          obtain ⟨gb, gc, a1, a2, a3, a4, a5⟩ := hm.grp gg hx.1
          obtain ⟨tp1, tp2, tp3⟩ := hm.tPG (by omega)
          have hPl : A.PG < wr.heap.size := block_lt_of_cell a2
          have HG := hide hg.out
          have HKQ := hide hKQ.out
          have HX := hide hx
          have HW := hide hw
          have HM := hide hm
          have HPL := hide hpl
          have HOV := hide hov
          have HA2 := hide (And.intro a2 (And.intro tp1 (And.intro tp2 hPl)))
          have HLM := hide hlm
          have HMN := hide hmn
          have HAC := hide (And.intro tp3 (And.intro a3 a4))
          clear hg hKQ hQ hm hw hh hpl hov hHm hmn q1 q2 q3 hNN hp hhb hgH hx hsq hlm a1 a2 a3 a4 a5 tp1 tp2 tp3 hPl hN0 hgg
          go_upto_region 9 with (go_at_call 18; refine (He.len_any _ _ _ _).mono ?_; rintro r W5 ⟨rfl, rfl⟩)
          go_upto_region 10 with (go_at_call 19; refine HT.out.mono ?_; rintro r W6 ⟨rfl, H', b1, b2, b3, b4, b5⟩)
          obtain ⟨r1, r2, r3⟩ := HM.out.ready b1 (.inl rfl) (b4.mono (fun c _ h => ⟨h.1, fun e1 => h.2 (by rw [e1]; rfl)⟩)) b5
          have hov6 := HOV.out.kept r3 (fun _ => ⟨by rw [HA2.out.2.2.1]; omega, HA2.out.2.2.2⟩) (fun c hc => by rw [HOV.out.2 c hc]; omega)
          have hov7 : OV A (mark tgl hb 7) l u5 W6 := ⟨hov6.1, fun c hc => by rw [r2 c (HOV.out.lt c hc)]; exact HOV.out.2 c hc⟩
          obtain ⟨xs, x1, x2⟩ := hov6.1
          have d1 := r1.bx.cel 1 _ rfl
          rw [HA2.out.2.1] at d1
          have hPs : tgl A.PG ≠ 1 ∧ tgl A.PG ≠ 7 := by rw [HA2.out.2.2.1]; omega
          have cPG := (r3.cell (p := ⟨A.PG, gg, none⟩) HA2.out.2.2.2 hPs).trans HA2.out.1
          have hgm : (gg : Int) < (m : Int) := by have := HX.out.1; omega
          obtain ⟨V2, hV2⟩ : ∃ V2, W6.alloc (.cells #[.slice (some ⟨gb, 0, none⟩) (G gg).length gc] 27) = V2 := ⟨_, rfl⟩
          have k2 : Kept (fun _ => True) W6 V2 := by rw [← hV2]; exact Kept.alloc _ _ _
          have HN2 : Hid (V2.heap[W6.heap.size]? = some (.cells #[.slice (some ⟨gb, 0, none⟩) (G gg).length gc] 27)) := by unfold Hid; rw [← hV2]; exact heap_new _ _
          have HR2 : Hid (V2.ownsRow 0 27 1 u5 l.length xs) := ownsRow_kept x1 k2 (fun _ _ => trivial)
          have HM2 : Hid (l.length + 1 ≤ maxLen ∧ (l.length + 1) * 24 ≤ 140737488355328) := by have := HLM.out; have := HMN.out; have := HNB.out; unfold Hid maxLen; omega
          have HT4 : Hid (∀ b cap W4, V2.grownBy W4 u5.ownBlock → W4.ownsRow 0 27 1 (.slice (some ⟨b, 0, none⟩) (l.length + 1) cap) (l.length + 1) (xs ++ [.slice (some ⟨gb, 0, none⟩) (G gg).length gc]) → (u5.ownBlock = some b ∨ b = V2.heap.size) → OV A (mark (mark tgl hb 7) b 10) (l ++ [gg]) (.slice (some ⟨b, 0, none⟩) (l.length + 1) cap) W4 ∧ GM e W.heap.size m ea ec GB A (mark (mark tgl hb 7) b 10) of nx left G wv wait pl (.slice (some ⟨hb, 0, none⟩) p hc) H' W4 ∧ (∀ c, c < W6.heap.size → mark (mark tgl hb 7) b 10 c = mark tgl hb 7 c) ∧ Kept (fun c => mark tgl hb 7 c ≠ 10) W6 W4 ∧ b < W4.heap.size) := by
            intro b cap W4 hG hO hat
            exact hov7.push r1 HX.out.1 cPG x2 (by have := x1.1; omega) k2 hG hO hat
          have HR13 := hide (And.intro r2 r3)
          have HPM : Hid (H.Perm (gg :: H')) := b2.symm.trans (List.perm_append_singleton _ _)
          have HB3 := hide b3
          have HV2 := hide hV2
          clear r1 r2 r3 hov6 hov7 x1 x2 k2 hV2 b1 b2 b3 b4 b5 hPs
          go_upto_region 11 with (at_builtin; rw [HV2.out]; refine ur_stepL rfl _ _ 23 27 rfl Try.info27 Try.underlying23 rfl (by decide) 0 V2 u5 l.length xs [.slice (some ⟨gb, 0, none⟩) (G gg).length gc] W6.heap.size 1 rfl rfl (Nat.zero_le _) HR2.out HN2.out rfl (by simp [Value.oneCell']) HM2.out.1 HM2.out.2 ?_; intro b cap W4 hO4 hG4 hat4; have Y := hide (HT4.out b cap W4 hG4 hO4 hat4); clear hO4 hG4 hat4)
          have HC := hide (i_place HNB.out HR.out HPL.out Y.out.2.1 HW.out HX.out HPM.out HB3.out)
          have hPg4 : A.PG < W4.heap.size := Nat.lt_of_lt_of_le (Nat.lt_of_lt_of_le HA2.out.2.2.2 HR13.out.2.size) Y.out.2.2.2.1.size
          have HP4 := hide hPg4
          clear cPG hPg4 d1
          go_wp2_with (go_at_call 20; refine HC.out.mono ?_; rintro r W7 ⟨rfl, tg7, h7⟩)
          go_roundg (m - (l ++ [gg]).length)
          case measure => rw [HG.out, List.length_append]; have := HLM.out; simp; omega
          case rel =>
            have tP := (Y.out.2.1.tPG (by have := HLM.out; omega)).2.1
            have ho := Y.out.1.kept h7.kp (fun _ => ⟨by unfold KP KS; rw [tP]; omega, HP4.out⟩) (fun c hc => by have := Y.out.1.2 c hc; unfold KP KS; omega)
            refine ⟨l ++ [gg], tg7, ⟨_, rfl⟩, rfl, ⟨_, h7.ss, fun x hx => ?_, ho.1, fun c hc => ?_⟩, ((HKQ.out.trans (HR13.out.2.mono (fun c _ h => by have := HM.out.t0 c h; omega))).trans (Y.out.2.2.2.1.mono (fun c _ h => by have h1 := HM.out.t0 c h; have h2 := HR13.out.1 c (Nat.lt_of_lt_of_le h HM.out.sz); omega))).trans (h7.kp.mono (fun c _ h => by have := Y.out.2.1.t0 c h; unfold KP KS; omega))⟩
            · by_cases e1 : x = gg
              · simp [Gr.updB, e1]
              · have := HPL.out x hx
                unfold Gr.updB
                rw [if_neg e1, this]
                simp [e1]
            · have h1 := Y.out.1.2 c hc
              rw [h7.ag c (Y.out.1.lt c hc) (by omega)]; exact h1
end Go.Proofs.Ytmnligaelihmiaa
