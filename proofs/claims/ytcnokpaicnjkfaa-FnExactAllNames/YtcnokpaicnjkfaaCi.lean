import Derived.Test.YtcnokpaicnjkfaaCh
import Derived.Test.YtcnokpaicnjkfaaJA
namespace Go.Proofs.Ytcnokpaicnjkfaa
open Go.RowKit Go.Joins

/-- All terms are as their kinds ask. -/
def Tm.good : Tm → Prop
  | .nil => True
  | .nd h ks al r => shp h ks.len al ∧ ks.good ∧ al.good ∧ r.good

theorem sub_facts {W : World} {S : Nat → Prop} {a : Option Addr} {n c : Nat} {F : Fo} (h : Fo.Sub W S a n c F) : n ≤ maxLen := Nat.le_trans h.1 h.2.1

theorem m_shape (F : Fo) (nb : Nat) (W : World) (hf : Fit E F (E 3)) (hnb : nb ≤ W.heap.size) (hwt : F.wt ≤ 1048576) (hs : F.Subs W (fun c => c < nb)) (h : Hd) (ks al : Tm) (he : rdK F = .nd h ks al .nil) (q : Bool) (hq : q = true ↔ shp h ks.len al) :
    Calls Try.prog 53 #[.agg F.vals.toArray] W fun e W' => e = .returned (.bool q) ∧ Below W.heap.size W W' := by
  obtain ⟨k, nm, mn, la, ln, lc, lk, na, nn, nc, nk, ka, kn, kc, kk, aa, an, ac, ak, rfl, -, hnm, h3, h4, h5, h6⟩ := core_open hf
  obtain ⟨hs3, hs4, hs5, hs6, -⟩ := hs
  rw [rdK_nd, rdK_nil] at he
  obtain ⟨rfl, rfl, rfl, -⟩ := Tm.nd.inj he
  simp only [Fo.wt, textSize] at hwt
  simp only [Fo.vals]
  rw [rdK_len kn kk h5] at hq
  obtain ⟨hlr, hll⟩ := lr_of h3 hs3
  obtain ⟨hsr, hsl⟩ := sr_of h4 hs4
  have hal := rdA_len an ak h6
  have hkn := sub_facts hs5
  have han := sub_facts hs6
  rw [← hll, ← hsl]
  by_cases e1 : k = 1
  · subst e1; exact ms_1 nm mn la na ka aa lc nc kn kc an ac (rdU lk) (rdS nk) (rdA ak) W nb hnb hlr hsr hkn han hal hnm q hq
  by_cases e2 : k = 2
  · subst e2
    rcases Nat.eq_zero_or_pos (rdU lk).length with hv | hv
    · cases hm : mn with
      | true => exact ms_2b nm true la na ka aa lc nc kn kc an ac (rdU lk) (rdS nk) (rdA ak) W nb hnb hlr hsr hkn han hal hnm q (by rw [hm] at hq; exact hq) hv rfl
      | false => exact ms_2c nm false la na ka aa lc nc kn kc an ac (rdU lk) (rdS nk) (rdA ak) W nb hnb hlr hsr hkn han hal hnm q (by rw [hm] at hq; exact hq) hv rfl
    · exact ms_2a nm mn la na ka aa lc nc kn kc an ac (rdU lk) (rdS nk) (rdA ak) W nb hnb hlr hsr hkn han hal hnm q hq hv
  by_cases e3 : k = 3
  · subst e3; exact ms_3 nm mn la na ka aa lc nc kn kc an ac (rdU lk) (rdS nk) (rdA ak) W nb hnb hlr hsr hkn han hal hnm q hq
  by_cases e4 : k = 4
  · subst e4; exact ms_4 nm mn la na ka aa lc nc kn kc an ac (rdU lk) (rdS nk) (rdA ak) W nb hnb hlr hsr hkn han hal hnm q hq
  by_cases e5 : k = 5
  · subst e5; exact ms_5 nm mn la na ka aa lc nc kn kc an ac (rdU lk) (rdS nk) (rdA ak) W nb hnb hlr hsr hkn han hal hnm q hq
  by_cases e6 : k = 6
  · subst e6; exact ms_6 nm mn la na ka aa lc nc kn kc an ac (rdU lk) (rdS nk) (rdA ak) W nb hnb hlr hsr hkn han hal hnm q hq
  by_cases e7 : k = 7
  · subst e7; exact ms_7 nm mn la na ka aa lc nc kn kc an ac (rdU lk) (rdS nk) (rdA ak) W nb hnb hlr hsr hkn han hal hnm q hq (by omega)
  by_cases e9 : k = 9
  · subst e9; exact ms_9 nm mn la na ka aa lc nc kn kc an ac (rdU lk) (rdS nk) (rdA ak) W nb hnb hlr hsr hkn han hal hnm q hq
  by_cases e10 : k = 10
  · subst e10; exact ms_10 nm mn la na ka aa lc nc kn kc an ac (rdU lk) (rdS nk) (rdA ak) W nb hnb hlr hsr hkn han hal hnm q hq
  by_cases e8 : k = 8
  · subst e8; exact ms_8 nm mn la na ka aa lc nc kn kc an ac (rdU lk) (rdS nk) ak W nb hnb hlr hsr hkn (by omega) h6 hs6 q hq
  have hno := shp_other ⟨⟨#[]⟩, [], k, nm, mn, rdU lk, rdS nk⟩ kn (rdA ak) e1 e2 e3 e4 e5 e6 e7 e8 e9 e10
  have hqf : q = false := by
    cases hqq : q with
    | false => rfl
    | true => exact absurd (hq.1 hqq) hno
  rw [hqf]
  have nb_ : ∀ n : Int, ¬ k = n → (k == n) = false := fun n h => by rw [beq_eq_false_iff_ne]; exact h
  exact ms_other k nm mn la na ka aa _ lc _ nc kn kc an ac W (by rw [hll]; exact sub_facts hs3) (by rw [hsl]; exact sub_facts hs4) hkn han (nb_ 1 e1) (nb_ 2 e2) (nb_ 3 e3) (nb_ 4 e4) (nb_ 5 e5) (nb_ 6 e6) (nb_ 7 e7) (nb_ 8 e8) (nb_ 9 e9) (nb_ 10 e10)

theorem goodK_app {x : Fo} (hx : Fit E x (E 3)) (q : Fo) : (rdK (x.app q)).good ↔ (rdK x).good ∧ (rdK q).good := by
  obtain ⟨k, nm, mn, la, ln, lc, lk, na, nn, nc, nk, ka, kn, kc, kk, aa, an, ac, ak, rfl, -⟩ := core_open hx
  simp only [Fo.app]
  rw [rdK_nd, rdK_nd, rdK_nil]
  simp only [Tm.good]
  exact ⟨fun ⟨a, b, c, d⟩ => ⟨⟨a, b, c, trivial⟩, d⟩, fun ⟨⟨a, b, c, _⟩, d⟩ => ⟨a, b, c, d⟩⟩

theorem shp_head (h h' : Hd) (kn : Nat) (al : Tm) (e1 : h.k = h'.k) (e2 : h.nm = h'.nm) (e3 : h.mn = h'.mn) (e4 : h.lm = h'.lm) (e5 : h.ns = h'.ns) : shp h kn al ↔ shp h' kn al := by
  simp only [shp, e1, e2, e3, e4, e5]

theorem goodA_app {x : Fo} (hx : Fit E x (E 2)) (q : Fo) : ∃ (con : ByteArray) (ca : Option Addr) (cn cc : Nat) (ck y : Fo), x = .v (.string con) (.s ca cn cc ck y) ∧ Fit E y (E 3) ∧ ((rdA (x.app q)).good ↔ (rdK y).good ∧ (rdA q).good) := by
  obtain ⟨con, ca, cn, cc, ck, y, rfl, -, h1, hy⟩ := alt_open hx
  refine ⟨con, ca, cn, cc, ck, y, rfl, hy, ?_⟩
  obtain ⟨k, nm, mn, la, ln, lc, lk, na, nn, nc, nk, ka, kn, kc, kk, aa, an, ac, ak, rfl, -⟩ := core_open hy
  simp only [Fo.app]
  rw [rdA_nd, rdK_nd, rdK_nil]
  simp only [Tm.good]
  rw [shp_head ⟨con, rdS ck, k, nm, mn, rdU lk, rdS nk⟩ ⟨⟨#[]⟩, [], k, nm, mn, rdU lk, rdS nk⟩ _ _ rfl rfl rfl rfl rfl]
  exact ⟨fun ⟨a, b, c, d⟩ => ⟨⟨a, b, c, trivial⟩, d⟩, fun ⟨⟨a, b, c, _⟩, d⟩ => ⟨a, b, c, d⟩⟩

theorem truth (p : Prop) : ∃ q : Bool, q = true ↔ p := by
  by_cases h : p
  · exact ⟨true, by simp [h]⟩
  · exact ⟨false, by simp [h]⟩

/-- The model's look at all shapes, its contract for terms of at most m cells. -/
def ShpC (m : Nat) : Prop := ∀ (F : Fo) (nb : Nat) (W : World) (q : Bool), F.size ≤ m → Fit E F (E 3) → nb ≤ W.heap.size → F.wt ≤ 1048576 → F.Subs W (fun c => c < nb) → (q = true ↔ (rdK F).good) →
  Calls Try.prog 41 #[.agg F.vals.toArray] W fun e W' => e = .returned (.bool q) ∧ Below W.heap.size W W'

set_option maxHeartbeats 4000000 in
set_option maxRecDepth 100000 in
theorem shps_step (m : Nat) (ih : ShpC m) : ShpC (m + 1) := by
  intro F nb W q hm hf hnb hwt hs hq
  have hm_ := m_shape F nb
  obtain ⟨k, nm, mn, la, ln, lc, lk, na, nn, nc, nk, ka, kn, kc, kk, aa, an, ac, ak, rfl, -, -, h3, h4, h5, h6⟩ := core_open hf
  rw [rdK_nd, rdK_nil] at hq
  simp only [Tm.good, and_true] at hq
  obtain ⟨q1, hq1⟩ := truth (shp ⟨⟨#[]⟩, [], k, nm, mn, rdU lk, rdS nk⟩ (rdK kk).len (rdA ak))
  have hsub := hs
  obtain ⟨hs3, hs4, hs5, hs6, -⟩ := hs
  obtain ⟨V0, hV0⟩ : ∃ V, W.alloc (.cells #[.int .i64 k, .string nm, .bool mn, .slice la ln lc, .slice na nn nc, .slice ka kn kc, .slice aa an ac] 36) = V := ⟨_, rfl⟩
  have b0 : Below W.heap.size W V0 := by rw [← hV0]; exact below_alloc1 _ _
  have q0 : Bx V0 W.heap.size [.int .i64 k, .string nm, .bool mn, .slice la ln lc, .slice na nn nc, .slice ka kn kc, .slice aa an ac] := by rw [← hV0]; exact Bx.new _ _ _
  have HC := hide (hm_ V0 hf (Nat.le_trans hnb b0.size) hwt (hsub.below b0 (fun c hc => by omega)) _ _ _ (by rw [rdK_nd, rdK_nil]) q1 hq1)
  simp only [Fo.size] at hm
  simp only [Fo.wt, textSize] at hwt
  simp only [Fo.vals] at HC ⊢
  have HQ := hide hq
  have HQ1 := hide hq1
  have HQ0 := hide q0
  have HB0 := hide b0
  have HV0 := hide hV0
  have HRA : Hid (∀ V, Below V0.heap.size V0 V → Rd E (E 2) an nb aa 0 ak V) := fun V k => ((Rd.start h6 hs6).below b0 hnb).below k (by have := b0.size; omega)
  have HRK : Hid (∀ V, Below V0.heap.size V0 V → Rd E (E 3) kn nb ka 0 kk V) := fun V k => ((Rd.start h5 hs5).below b0 hnb).below k (by have := b0.size; omega)
  have HBW : Hid (∀ V, Below V0.heap.size V0 V → Below W.heap.size W V) := fun V k => b0.trans (k.mono b0.size)
  have hax : an ≤ 9223372036854775807 := sub_facts hs6
  have hkx : kn ≤ 9223372036854775807 := sub_facts hs5
  have c0 := q0.cel 0 _ rfl
  have c1 := q0.cel 1 _ rfl
  have c2 := q0.cel 2 _ rfl
  have c3 := q0.cel 3 _ rfl
  have c4 := q0.cel 4 _ rfl
  have c5 := q0.cel 5 _ rfl
  have c6 := q0.cel 6 _ rfl
  have HM := hide hm
  have HZ : Hid (nb ≤ V0.heap.size) := Nat.le_trans hnb b0.size
  clear hV0 b0 q0 hq hq1 hs3 hs4 hs5 hs6 hsub hm_ hf h3 h4 h5 h6 hm hnb
  go_enter Try.func41, Try.ntmps41
  go_upto_region 1 with fail
  rw [HV0.out]
  clear HV0
  go_wp2_with fail
  refine HC.out.mono ?_
  rintro e w1 ⟨rfl, b1⟩
  clear HC c0 c1 c2 c3 c4 c5 c6
  have HK1 := hide b1
  cases q1 with
  | false =>
    have HF : Hid (q = false) := by
      cases hqq : q with
      | false => rfl
      | true => exact absurd (HQ1.out.2 (HQ.out.1 hqq).1) (by simp)
    clear b1
    go_wp2_with fail
    go_ret
    exact ⟨by rw [HF.out]; rfl, HBW.out w1 HK1.out⟩
  | true =>
    have HQ2 : Hid (q = true ↔ (rdK kk).good ∧ (rdA ak).good) := by
      unfold Hid
      rw [HQ.out]
      exact ⟨fun h => h.2, fun h => ⟨HQ1.out.1 rfl, h⟩⟩
    have c5 := (HQ0.out.below b1).cel 5 _ rfl
    clear b1 HQ HQ1
    go_wp2_with fail
    go_loopw [3] (fun s3 wr => ∃ (i : Nat) (r : Fo), s3 = .int .i64 i ∧ i ≤ kn ∧ Hid (((rdK kk).good ↔ (rdK r).good) ∧ r.wt ≤ kk.wt ∧ r.size ≤ kk.size) ∧ Hid (Rd E (E 3) kn nb ka i r wr) ∧ Hid (Below V0.heap.size V0 wr)) (fun s3 _ => kn - (intOf s3).toNat)
    case atStart => exact ⟨0, kk, rfl, Nat.zero_le _, ⟨Iff.rfl, Nat.le_refl _, Nat.le_refl _⟩, HRK.out w1 HK1.out, HK1⟩
    case round =>
      obtain ⟨j, r, rfl, hjn, hcu, hRd, hK2⟩ := hrel
      clear c5
      have c5 := (HQ0.out.below hK2.out).cel 5 _ rfl
      by_cases hj : j < kn
      · obtain ⟨x, rr, b, o, rfl, hx, rfl, hb, hc, hxs, hR1⟩ := hRd.out.next hj (by decide)
        obtain ⟨g1, g2, g3⟩ := hcu.out
        rw [goodK_app hx] at g1
        rw [Fo.app_wt] at g2
        rw [Fo.app_size] at g3
        have hjj : (j : Int) < kn := by omega
        obtain ⟨qx, hqx⟩ := truth (rdK x).good
        have HC := hide (ih x nb wr qx (by have := HM.out; omega) hx (Nat.le_trans HZ.out hK2.out.size) (by omega) hxs hqx)
        have HG1 := hide g1
        have HQX := hide hqx
        have HR1 := hide hR1
        have HG2 : Hid (rr.wt ≤ kk.wt ∧ rr.size ≤ kk.size) := ⟨by omega, by omega⟩
        obtain ⟨xk, xnm, xmn, xla, xln, xlc, xlk, xna, xnn, xnc, xnk, xka, xkn, xkc, xkk, xaa, xan, xac, xak, rfl, -⟩ := core_open hx
        simp only [Fo.vals] at HC hc
        have p0 : wr.cell? ⟨b, o + j * 7, none⟩ = some (.int .i64 xk) := hc 0 _ rfl
        have p1 : wr.cell? ⟨b, o + j * 7 + 1, none⟩ = some (.string xnm) := hc 1 _ rfl
        have p2 : wr.cell? ⟨b, o + j * 7 + 2, none⟩ = some (.bool xmn) := hc 2 _ rfl
        have p3 : wr.cell? ⟨b, o + j * 7 + 3, none⟩ = some (.slice xla xln xlc) := hc 3 _ rfl
        have p4 : wr.cell? ⟨b, o + j * 7 + 4, none⟩ = some (.slice xna xnn xnc) := hc 4 _ rfl
        have p5 : wr.cell? ⟨b, o + j * 7 + 5, none⟩ = some (.slice xka xkn xkc) := hc 5 _ rfl
        have p6 : wr.cell? ⟨b, o + j * 7 + 6, none⟩ = some (.slice xaa xan xac) := hc 6 _ rfl
        clear hc hxs hx g1 g2 g3 hcu hRd hR1 hqx
        go_wp2_with fail
        refine HC.out.mono ?_
        clear HC
        rintro e w2 ⟨rfl, b2⟩
        have HKn := hide (hK2.out.trans (b2.mono hK2.out.size))
        cases qx with
        | false =>
          have HF : Hid (q = false) := by
            cases hqq : q with
            | false => rfl
            | true => exact absurd (HQX.out.2 (HG1.out.1 (HQ2.out.1 hqq).1).1) (by simp)
          clear b2
          go_wp2_with fail
          go_ret
          exact ⟨by rw [HF.out]; rfl, HBW.out w2 HKn.out⟩
        | true =>
          have HG3 : Hid (((rdK kk).good ↔ (rdK rr).good) ∧ rr.wt ≤ kk.wt ∧ rr.size ≤ kk.size) := ⟨⟨fun h => (HG1.out.1 h).2, fun h => HG1.out.2 ⟨HQX.out.1 rfl, h⟩⟩, HG2.out⟩
          have HRn := hide (HR1.out.below b2 (Nat.le_trans HZ.out hK2.out.size))
          clear b2 HG1 HQX HG2
          go_wp2_with fail
          go_roundw
          case rel => exact ⟨j + 1, rr, by go_num, by omega, HG3, HRn, HKn⟩
          case measure => simp [intOf]; omega
      · obtain ⟨rfl, rfl⟩ := hRd.out.done hj
        obtain ⟨g1, -, -⟩ := hcu.out
        rw [rdK_nil] at g1
        have HQ3 : Hid (q = true ↔ (rdA ak).good) := by
          unfold Hid
          rw [HQ2.out]
          exact ⟨fun h => h.2, fun h => ⟨g1.2 trivial, h⟩⟩
        have HRA2 := hide (HRA.out wr hK2.out)
        have hjj : ¬ (j : Int) < j := by omega
        clear g1 hcu hRd HQ2
        go_wp2_with fail
        go_loopw [4] (fun s4 wr => ∃ (i1 : Nat) (r : Fo), s4 = .int .i64 i1 ∧ i1 ≤ an ∧ Hid (((rdA ak).good ↔ (rdA r).good) ∧ r.wt ≤ ak.wt ∧ r.size ≤ ak.size) ∧ Hid (Rd E (E 2) an nb aa i1 r wr) ∧ Hid (Below V0.heap.size V0 wr)) (fun s4 _ => an - (intOf s4).toNat)
        case atStart => exact ⟨0, ak, rfl, Nat.zero_le _, ⟨Iff.rfl, Nat.le_refl _, Nat.le_refl _⟩, HRA2, hK2⟩
        case round =>
          obtain ⟨i1, r, rfl, hjn1, hcu, hRd, hK3⟩ := hrel
          clear c5
          have c6 := (HQ0.out.below hK3.out).cel 6 _ rfl
          by_cases hj1 : i1 < an
          · obtain ⟨x, rr, b, o, rfl, hx, rfl, hb, hc, hxs, hR1⟩ := hRd.out.next hj1 (by decide)
            obtain ⟨g1, g2, g3⟩ := hcu.out
            obtain ⟨con, ca, cn, cc, ck, y, rfl, hy, hap⟩ := goodA_app hx rr
            rw [hap] at g1
            rw [Fo.app_wt] at g2
            rw [Fo.app_size] at g3
            simp only [Fo.wt, Fo.size] at g2 g3
            have hjj1 : (i1 : Int) < an := by omega
            obtain ⟨qx, hqx⟩ := truth (rdK y).good
            have HC := hide (ih y nb wr qx (by have := HM.out; omega) hy (Nat.le_trans HZ.out hK3.out.size) (by omega) hxs.2 hqx)
            have HG1 := hide g1
            have HQX := hide hqx
            have HR1 := hide hR1
            have HG2 : Hid (rr.wt ≤ ak.wt ∧ rr.size ≤ ak.size) := ⟨by omega, by omega⟩
            obtain ⟨xk, xnm, xmn, xla, xln, xlc, xlk, xna, xnn, xnc, xnk, xka, xkn, xkc, xkk, xaa, xan, xac, xak, rfl, -⟩ := core_open hy
            simp only [Fo.vals] at HC hc
            have p0 : wr.cell? ⟨b, o + i1 * 9 + 2, none⟩ = some (.int .i64 xk) := hc 2 _ rfl
            have p1 : wr.cell? ⟨b, o + i1 * 9 + 2 + 1, none⟩ = some (.string xnm) := hc 3 _ rfl
            have p2 : wr.cell? ⟨b, o + i1 * 9 + 2 + 2, none⟩ = some (.bool xmn) := hc 4 _ rfl
            have p3 : wr.cell? ⟨b, o + i1 * 9 + 2 + 3, none⟩ = some (.slice xla xln xlc) := hc 5 _ rfl
            have p4 : wr.cell? ⟨b, o + i1 * 9 + 2 + 4, none⟩ = some (.slice xna xnn xnc) := hc 6 _ rfl
            have p5 : wr.cell? ⟨b, o + i1 * 9 + 2 + 5, none⟩ = some (.slice xka xkn xkc) := hc 7 _ rfl
            have p6 : wr.cell? ⟨b, o + i1 * 9 + 2 + 6, none⟩ = some (.slice xaa xan xac) := hc 8 _ rfl
            clear hc hxs hx g1 g2 g3 hcu hRd hR1 hqx hap hy
            go_wp2_with fail
            refine HC.out.mono ?_
            clear HC
            rintro e w2 ⟨rfl, b2⟩
            have HKn := hide (hK3.out.trans (b2.mono hK3.out.size))
            cases qx with
            | false =>
              have HF : Hid (q = false) := by
                cases hqq : q with
                | false => rfl
                | true => exact absurd (HQX.out.2 (HG1.out.1 (HQ3.out.1 hqq)).1) (by simp)
              clear b2
              go_wp2_with fail
              go_ret
              exact ⟨by rw [HF.out]; rfl, HBW.out w2 HKn.out⟩
            | true =>
              have HG3 : Hid (((rdA ak).good ↔ (rdA rr).good) ∧ rr.wt ≤ ak.wt ∧ rr.size ≤ ak.size) := ⟨⟨fun h => (HG1.out.1 h).2, fun h => HG1.out.2 ⟨HQX.out.1 rfl, h⟩⟩, HG2.out⟩
              have HRn := hide (HR1.out.below b2 (Nat.le_trans HZ.out hK3.out.size))
              clear b2 HG1 HQX HG2
              go_wp2_with fail
              go_roundw
              case rel => exact ⟨i1 + 1, rr, by go_num, by omega, HG3, HRn, HKn⟩
              case measure => simp [intOf]; omega
          · obtain ⟨rfl, -⟩ := hRd.out.done hj1
            obtain ⟨g1, -, -⟩ := hcu.out
            rw [rdA_nil] at g1
            have HF : Hid (q = true) := HQ3.out.2 (g1.2 trivial)
            have hji : ¬ (i1 : Int) < an := by omega
            clear g1 hcu hRd
            go_wp2_with fail
            go_ret
            exact ⟨by rw [HF.out]; rfl, HBW.out wr hK3.out⟩

theorem shps_all : ∀ m, ShpC m
  | 0 => fun F _ _ _ hm hf => absurd (Fit.len hf) (by have := F.len_le; show ¬ F.len = 7; omega)
  | m + 1 => shps_step m (shps_all m)

end Go.Proofs.Ytcnokpaicnjkfaa
