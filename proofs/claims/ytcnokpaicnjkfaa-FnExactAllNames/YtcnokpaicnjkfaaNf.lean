import Derived.Test.YtcnokpaicnjkfaaNe
import Derived.Deep.RegionLaw
namespace Go.Proofs.Ytcnokpaicnjkfaa.F
open Go.RowKit Go.Joins

set_option maxHeartbeats 8000000 in
set_option maxRecDepth 100000 in
theorem ko_step (m : Nat) (ih : KoC m) : KoC (m + 1) := by
  intro B0 b d W U T hm hwt hT hd hbk
  obtain ⟨db, dd, x⟩ := d
  obtain ⟨hfit, hcel, hsubs, hat⟩ := hd
  simp only at hm hwt hT hfit hcel hsubs hat
  replace hat : db < B0 := hat
  obtain ⟨k, nm, mn, la, ln, lc, lk, na, nn, nc, nk, ka, kn, kc, kk, aa, an, ac, ak, rfl, -, hnm, h3, h4, h5, h6⟩ := core_open hfit
  obtain ⟨hs3, hs4, hs5, hs6, -⟩ := hsubs
  simp only [Fo.size] at hm hT
  simp only [Fo.wt, textSize] at hwt
  simp only [Fo.vals] at hcel
  simp only [Nd.ptr]
  rw [rdK_nd, rdK_nil]
  have hkx : kn ≤ 9223372036854775807 := sub_facts hs5
  have hax : an ≤ 9223372036854775807 := sub_facts hs6
  obtain ⟨sn, eln⟩ := sr_of h4 hs4
  obtain ⟨NS, hNS⟩ : ∃ X, rdS nk = X := ⟨_, rfl⟩
  have hnl : NS.length ≤ nk.size := by rw [← hNS]; exact rdS_le nk
  have hnw : ∀ x ∈ NS, x.size ≤ 16777216 := fun x hx => by
    have := rdS_wt nk x (by rw [hNS]; exact hx)
    omega
  rw [hNS] at sn eln ⊢
  have hB0 : B0 ≤ W.heap.size := by obtain ⟨_, _, _, _, _, _, _, hB⟩ := hbk; exact hB
  have hUB : ∀ c, U c → B0 ≤ c := fun c hc => (hbk.lo c hc).1
  -- what the term's cells are, as long as the book alone changes
  have HCE : Hid (∀ V U1, Chg W V U U1 → Cel V [.int .i64 k, .string nm, .bool mn, .slice la ln lc, .slice na nn nc, .slice ka kn kc, .slice aa an ac] db dd) := fun V U1 c1 => Cel.kept hcel c1.kp (by omega) (fun e => by have := hUB _ e; omega)
  have HSR : Hid (∀ V U1, Chg W V U U1 → SR V (fun c => c < B0) na nc NS) := fun V U1 c1 => sn.kept c1.kp (fun c hc => ⟨fun e => by have := hUB _ e; have : c < B0 := hc; omega, by have : c < B0 := hc; omega⟩)
  have HRK : Hid (∀ V U1, Chg W V U U1 → Rd E (E 3) kn B0 ka 0 kk V) := fun V U1 c1 => (Rd.start h5 hs5).kept c1.kp hB0 (fun c hc e => by have := hUB _ e; omega)
  have HRA : Hid (∀ V U1, Chg W V U U1 → Rd E (E 2) an B0 aa 0 ak V) := fun V U1 c1 => (Rd.start h6 hs6).kept c1.kp hB0 (fun c hc e => by have := hUB _ e; omega)
  have kd : Kept (fun _ => True) W W.drew := Kept.drew _ _
  have cd : Chg W W.drew U U := ⟨kd.mono (fun _ _ _ => trivial), fun _ h => .inl h⟩
  have bkd : BK B0 b W.drew U T := hbk.kept kd (fun _ _ => trivial)
  have HC1 := hide (bkd.number2 nm (by omega) (by omega))
  have HTS : Hid (T.length + 7 + nk.size + kk.size + ak.size ≤ 16777216 ∧ kk.size ≤ m ∧ ak.size ≤ m ∧ kk.wt ≤ 1048576 ∧ ak.wt ≤ 1048576) := ⟨by omega, by omega, by omega, by omega, by omega⟩
  obtain ⟨t, ht⟩ : ∃ t : Th, t = ⟨k, nm, mn, la, ln, lc, NS⟩ := ⟨_, rfl⟩
  have HC2 : Hid (∀ W5 (i : Nat) U1 T1, T1[i]? = some nm → BK B0 b W5 U1 T1 → Chg W.drew W5 U U1 → T1.length ≤ T.length + 1 → Calls Try.prog 49 #[.pointer (some ⟨b, 0, none⟩), .slice na nn nc] W5 fun e w => ∃ v, e = .returned v ∧ NsP B0 b W5 U1 T1 NS v w) := fun W5 i U1 T1 _ h2 h3 h4 => i_numbers2 h2 na nn nc NS eln (HSR.out W5 U1 (cd.trans h3)) hnw (by omega)
  have HKB : Hid (∀ W5 W6 W7 (i : Nat) U1 T1 U2 T2 ns, T1[i]? = some nm → Chg W.drew W5 U U1 → T <+: T1 → NI B0 b W5 U1 T1 NS NS.length W6 U2 T2 ns → Kept (fun _ => True) W6 W7 → Bx W7 W6.heap.size (kcs k i mn la ln lc W5.heap.size NS.length (.slice none 0 0) (.slice none 0 0)) → KB B0 b W U T W6.heap.size t W7 U2 T2 [] [] (.slice none 0 0) (.slice none 0 0) (fun c => c = W5.heap.size) .nil .nil) := fun W5 W6 W7 i U1 T1 U2 T2 ns h1 h2 h3 h4 h5 h6 => by
    subst ht
    exact KB.start (t := ⟨k, nm, mn, la, ln, lc, NS⟩) (cd.trans h2) h3 h1 h4 h5 h6
  have HNL : Hid (NS.length ≤ nk.size ∧ NS.length = nn) := ⟨hnl, eln⟩
  have HCD := hide cd
  have HUB : Hid ((∀ c, U c → B0 ≤ c) ∧ B0 ≤ W.heap.size) := ⟨hUB, hB0⟩
  have HKN : Hid (kn ≤ 16777216 ∧ an ≤ 16777216) := by
    have h1 := Fit.len h5
    have h2 := Fit.len h6
    rw [rep_len] at h1 h2
    have h3 := kk.len_le
    have h4 := ak.len_le
    have e3 : (E 3).length = 7 := rfl
    have e2 : (E 2).length = 9 := rfl
    rw [e3] at h1
    rw [e2] at h2
    constructor <;> omega
  have HSQ : Hid (∀ V U1, Chg W V U U1 → V.cell? ⟨db, dd, none⟩ = some (.int .i64 k) ∧ V.cell? ⟨db, dd + 1, none⟩ = some (.string nm) ∧ V.cell? ⟨db, dd + 2, none⟩ = some (.bool mn) ∧ V.cell? ⟨db, dd + 3, none⟩ = some (.slice la ln lc) ∧ V.cell? ⟨db, dd + 4, none⟩ = some (.slice na nn nc)) := fun V U1 c1 => by
    have ce := HCE.out V U1 c1
    exact ⟨ce 0 _ rfl, ce 1 _ rfl, ce 2 _ rfl, ce 3 _ rfl, ce 4 _ rfl⟩
  have k0' := HSQ.out W.drew U cd
  obtain ⟨a0, a1, a2, a3, a4⟩ := HSQ.out W U (Chg.refl W U)
  clear hbk hcel hfit hs3 hs4 hs5 hs6 h3 h4 h5 h6 hUB hB0 hnl hnw sn eln hwt hT hm bkd cd kd hNS hnm
  go_enter Try.func26, Try.ntmps26
  go_upto_region 1 with fail
  go_cut [5] (fun s5 wx => ∃ (q : Nat) (U2 : Nat → Prop) (T2 : List ByteArray) (P : Nat → Prop), s5 = .pointer (some ⟨q, 0, none⟩) ∧ Hid (KB B0 b W U T q t wx U2 T2 [] [] (.slice none 0 0) (.slice none 0 0) P .nil .nil) ∧ Hid (T2.length ≤ T.length + 1 + NS.length))
  case first =>
    go_region_held3 (fun V => V.cell? ⟨db, dd, none⟩ = some (.int .i64 k) ∧ V.cell? ⟨db, dd + 1, none⟩ = some (.string nm) ∧ V.cell? ⟨db, dd + 2, none⟩ = some (.bool mn) ∧ V.cell? ⟨db, dd + 3, none⟩ = some (.slice la ln lc) ∧ V.cell? ⟨db, dd + 4, none⟩ = some (.slice na nn nc))
      (first | with_reducible exact k6' | with_reducible exact k5' | with_reducible exact k0' | exact HS6.out _ (Kept.alloc _ _ _))
      (first
        | (go_at_call 48; refine HC1.out.mono ?_; rintro e W5 ⟨v5, rfl, i5, U5, T5, rfl, g1, g2, g3, g4, g5⟩; have G1 := hide g1; have G3 := hide g3; have G4 := hide g4; have G5 := hide g5; have HC5 := hide (HC2.out W5 i5 U5 T5 g1 g2 g3 g5); have k5' := HSQ.out W5 U5 (HCD.out.trans g3); clear g1 g2 g3 g4 g5)
        | (go_at_call 49; refine HC5.out.mono ?_; rintro e W6 ⟨v6, rfl, U6, T6, ns, rfl, ni⟩; have N6 := hide ni; have k6' := HSQ.out W6 U6 (HCD.out.trans (G3.out.trans ni.ch)); have HS6 : Hid (∀ V, Kept (fun _ => True) W6 V → _) := (fun V kV => HSQ.out V U6 ((HCD.out.trans (G3.out.trans N6.out.ch)).keep (kV.mono (fun _ _ _ => trivial)))); clear ni))
    all_goals
      go_wp2_with fail
      go_meet
      case rel => exact ⟨_, U6, T6, _, rfl, HKB.out W5 W6 _ i5 U5 T5 U6 T6 ns G1.out G3.out G4.out N6.out (Kept.alloc _ _ _) (Bx.new _ _ _), by have h1 := G5.out; have h2 := N6.out.len; show T6.length ≤ _; omega⟩
  case rest =>
    obtain ⟨q, U2, T2, P2, rfl, hkb, hl2⟩ := hcut
    rename World => wx
    have c5 : wx.cell? ⟨db, dd + 5, none⟩ = some (.slice ka kn kc) := HCE.out wx U2 hkb.out.ch 5 _ rfl
    have HR0 := hide (HRK.out W U (Chg.refl W U))
    clear HC1 HC2 HKB HSQ k0' a0 a1 a2 a3 a4
    go_upto_region 3 with fail
    go_loopw [6, 36] (fun _ s36 wr => ∃ (i : Nat) (r : Fo) (Dk : Tm) (U' : Nat → Prop) (T' : List ByteArray) (kb : List Nat) (a : Option Addr) (c : Nat) (P : Nat → Prop), s36 = .int .i64 (i : Int) ∧ i ≤ kn ∧ Hid (rdK kk = Tm.app Dk (rdK r)) ∧ Hid (Rd E (E 3) kn B0 ka i r W) ∧ Hid (KB B0 b W U T q t wr U' T' kb [] (.slice a i c) (.slice none 0 0) P Dk .nil) ∧ Hid (T'.length + r.size ≤ T.length + 1 + nk.size + kk.size ∧ kb.length = i ∧ r.size ≤ kk.size ∧ r.wt ≤ kk.wt)) (fun _ s36 _ => kn - (intOf s36).toNat)
    case atStart => exact ⟨0, kk, .nil, U2, T2, [], none, 0, P2, rfl, Nat.zero_le _, rfl, HR0, hkb, ⟨by have h1 := hl2.out; have h2 := HNL.out.1; omega, rfl, Nat.le_refl _, Nat.le_refl _⟩⟩
    case round =>
      obtain ⟨i, r, Dk, U', T', kb, a, c, P, rfl, hin, hDk, hRd, hKB, hB⟩ := hrel
      by_cases hi : i < kn
      · have hii : (i : Int) < (kn : Int) := by omega
        obtain ⟨x, rr, bb, oo, rfl, hx, rfl, hb, hc, hxs, hR1⟩ := hRd.out.next hi (by decide)
        obtain ⟨g1, g2, g3, g4⟩ := hB.out
        rw [Fo.app_size] at g1 g3
        rw [Fo.app_wt] at g4
        obtain ⟨s1, s2, s3, s4, s5⟩ := HTS.out
        have c5 : wr.cell? ⟨db, dd + 5, none⟩ = some (.slice (some ⟨bb, oo, none⟩) kn kc) := HCE.out wr U' hKB.out.ch 5 _ rfl
        have c5d : wr.drew.cell? ⟨db, dd + 5, none⟩ = some (.slice (some ⟨bb, oo, none⟩) kn kc) := c5
        obtain ⟨q5, -⟩ := hKB.out.cel (i := 0) rfl
        have q5d : wr.drew.cell? ⟨q, 5, none⟩ = some (.slice a i c) := q5
        have kd : Kept (fun _ => True) wr wr.drew := Kept.drew _ _
        have KBd := hide (hKB.out.keep kd)
        have hok : Nd.Ok wr.drew (fun c => c < B0) ⟨bb, oo + i * 7, x⟩ := by
          have K := KBd.out.ch.kp
          have hU : ∀ c', c' < B0 → ¬ U c' ∧ c' < W.heap.size := fun c' hc' => ⟨fun e => by have := HUB.out.1 c' e; omega, by have := HUB.out.2; omega⟩
          exact ⟨hx, Cel.kept hc K (hU bb hb).2 (hU bb hb).1, hxs.kept K (fun c' hc' => hU c' hc'), hb⟩
        have HC := hide (ih B0 b ⟨bb, oo + i * 7, x⟩ wr.drew U' T' (by show x.size ≤ m; omega) (by show x.wt ≤ _; omega) (by show T'.length + x.size ≤ _; omega) hok KBd.out.bk)
        simp only [Nd.ptr] at HC
        have HBN : Hid (rr.size ≤ kk.size ∧ rr.wt ≤ kk.wt ∧ T'.length + x.size + rr.size ≤ T.length + 1 + nk.size + kk.size ∧ kb.length = i) := ⟨by omega, by omega, by omega, g2⟩
        have HDN : Hid (rdK kk = Tm.app (Tm.app Dk (rdK x)) (rdK rr)) := by
          unfold Hid
          rw [hDk.out, Tm.app_assoc]
          congr 1
          obtain ⟨xk, xnm, xmn, xla, xln, xlc, xlk, xna, xnn, xnc, xnk, xka, xkn, xkc, xkk, xaa, xan, xac, xak, rfl, -⟩ := core_open hx
          simp only [Fo.app]
          rw [rdK_nd, rdK_nd, rdK_nil]
          rfl
        have HR1 := hide hR1
        have HSX : Hid (∀ W5 U5 (q1 : Nat), Chg wr.drew W5 U' U5 → ∀ c', (wr.drew.heap.size ≤ c' ∧ c' < W5.heap.size ∧ ¬ U5 c') → W.heap.size ≤ c' ∧ c' < (W5.alloc (.cells #[.pointer (some ⟨q1, 0, none⟩)] 56)).heap.size ∧ ¬ U5 c' ∧ c' ≠ q ∧ (Value.slice a i c).ownBlock ≠ some c' ∧ (Value.slice none 0 0).ownBlock ≠ some c') := fun W5 U5 q1 f2 c' hc' => by
          have h1 := hKB.out.ch.kp.size
          have h2 : wr.heap.size ≤ c' := hc'.1
          refine ⟨by omega, by simp; omega, hc'.2.2, by have := hKB.out.qq.2.1; omega, fun e => ?_, fun e => by cases e⟩
          have := (World.ownsRow.lt hKB.out.kr c' e).2
          omega
        have H63 : Hid (i + 1 ≤ maxLen ∧ (i + 1) * 8 ≤ 140737488355328) := by
          have h1 := HKN.out.1
          unfold Hid maxLen
          omega
        clear hc hxs hx hb hok g1 g2 g3 g4 s1 s2 s3 s4 s5 hB hRd hDk hR1 kd
        go_upto_region 5 with fail
        go_region_law (first
          | (refine step_call (by rfl) 26 #[.pointer (some ⟨b, 0, none⟩), .pointer (some ⟨bb, oo + i * 7, none⟩)] (by simp [go_sem]) _ HC.out ?_; rintro v5 W5 ⟨q1, U5, T5, rfl, f1, f2, f3, f4, f5⟩; have KB5 := hide (KBd.out.call f1 f2 f3); have q55 := (KB5.out.cel (i := 0) rfl).1; have KBA := hide (KB5.out.keep (Kept.alloc (fun _ => True) W5 (.cells #[.pointer (some ⟨q1, 0, none⟩)] 56))); have qa5 := (KBA.out.cel (i := 0) rfl).1; have F4 := hide f4; have F5 := hide f5; have HS5 := hide (HSX.out W5 U5 q1 f2); clear f1 f2 f3 f4 f5)
          | (refine ur_draw (by rfl) _ _ 95 56 (by rfl) Try.info56 Try.underlying95 rfl (by decide) W.heap.size _ (.slice a i c) i (kb.map pv) [.pointer (some ⟨q1, 0, none⟩)] _ 1 (by rfl) (by have h := KBA.out.kr; rw [HBN.out.2.2.2] at h; exact h) (by rfl) (heap_new _ _) (by have := KBA.out.ch.kp.size; exact this) rfl (by simp [Value.oneCell']) H63.out.1 H63.out.2 ?_; intro g7 cp w7 hO7 hG7 hat7; have HE7 := hide (KBA.out.kid HBN.out.2.2.2.symm (S1 := fun c' => wr.drew.heap.size ≤ c' ∧ c' < W5.heap.size ∧ ¬ U5 c') (Kn.kept (Kept.alloc (fun _ => True) W5 (.cells #[.pointer (some ⟨q1, 0, none⟩)] 56)) (fun c' hc' => ⟨trivial, hc'.2.1⟩) _ _ _ F5.out) (HS5.out) hO7 hG7 hat7); have t1 := HE7.out.1.1; have t2 := HE7.out.1.2; clear hO7 hG7 hat7)
          | fail)
        all_goals
          go_wp2_with fail
          go_roundw
          case rel =>
            refine ⟨i + 1, rr, Tm.app Dk (rdK x), U5, T5, kb ++ [q1], _, _, _, by go_num, by omega, HDN, HR1, HE7.out.2, ?_⟩
            obtain ⟨h1, h2, h3, h4⟩ := HBN.out
            exact ⟨by have := F4.out; omega, by rw [List.length_append, h4]; rfl, h1, h2⟩
          case measure => simp [intOf]; omega
      · have hii : ¬ (i : Int) < (kn : Int) := by omega
        obtain ⟨rfl, ein⟩ := hRd.out.done hi
        have hDk2 := hDk.out
        rw [rdK_nil, Tm.app_nil] at hDk2
        subst hDk2
        have hKB0 : Hid (KB B0 b W U T q t wr U' T' kb [] (.slice a i c) (.slice none 0 0) P (rdK kk) .nil) := hKB
        have HB0 : Hid (T'.length ≤ T.length + 1 + nk.size + kk.size) := by have h := hB.out.1; simp only [Fo.size] at h; show _ ≤ _; omega
        have c6 : wr.cell? ⟨db, dd + 6, none⟩ = some (.slice aa an ac) := HCE.out wr U' hKB.out.ch 6 _ rfl
        have HR0 := hide (HRA.out W U (Chg.refl W U))
        obtain ⟨kv, hkv⟩ : ∃ kv, kv = Value.slice a i c := ⟨_, rfl⟩
        rw [← hkv] at hKB0
        clear hRd hDk hB hKB hkv
        go_upto_region 8 with fail
        go_loopw [7, 8, 62] (fun _ _ s62 wr => ∃ (i : Nat) (r : Fo) (Da : Tm) (U' : Nat → Prop) (T' : List ByteArray) (ab : List Nat) (a : Option Addr) (c : Nat) (P : Nat → Prop), s62 = .int .i64 (i : Int) ∧ i ≤ an ∧ Hid (rdA ak = Tm.app Da (rdA r)) ∧ Hid (Rd E (E 2) an B0 aa i r W) ∧ Hid (KB B0 b W U T q t wr U' T' kb ab kv (.slice a i c) P (rdK kk) Da) ∧ Hid (T'.length + r.size ≤ T.length + 1 + nk.size + kk.size + ak.size ∧ ab.length = i ∧ r.size ≤ ak.size ∧ r.wt ≤ ak.wt)) (fun _ _ s62 _ => an - (intOf s62).toNat)
        case atStart => exact ⟨0, ak, .nil, U', T', [], none, 0, P, rfl, Nat.zero_le _, rfl, HR0, hKB0, ⟨by have h1 := HB0.out; omega, rfl, Nat.le_refl _, Nat.le_refl _⟩⟩
        case round =>
          clear HB0 hKB0 c6 hi hii ein hin
          obtain ⟨i, r, Da, U', T', ab, a, c, P, rfl, hin, hDa, hRd, hKB, hB⟩ := hrel
          by_cases hi : i < an
          · have hii : (i : Int) < (an : Int) := by omega
            obtain ⟨x, rr, bb, oo, rfl, hx, rfl, hb, hc, hxs, hR1⟩ := hRd.out.next hi (by decide)
            obtain ⟨con, ca, cn, cc, ck, y, rfl, hcon, hck, hy⟩ := alt_open hx
            obtain ⟨g1, g2, g3, g4⟩ := hB.out
            rw [Fo.app_size] at g1 g3
            rw [Fo.app_wt] at g4
            simp only [Fo.size] at g1 g3
            simp only [Fo.wt, textSize] at g4
            obtain ⟨s1, s2, s3, s4, s5⟩ := HTS.out
            obtain ⟨hxs1, hxs2⟩ := hxs
            obtain ⟨sc, ecn⟩ := sr_of hck hxs1
            have hcl : (rdS ck).length ≤ ck.size := rdS_le ck
            obtain ⟨CS, hCS⟩ : ∃ X, rdS ck = X := ⟨_, rfl⟩
            have hcw : ∀ x ∈ CS, x.size ≤ 16777216 := fun x hx => by
              have := rdS_wt ck x (by rw [hCS]; exact hx)
              omega
            rw [hCS] at sc ecn hcl
            have hU : ∀ c', c' < B0 → ¬ U c' ∧ c' < W.heap.size := fun c' hc' => ⟨fun e => by have := HUB.out.1 c' e; omega, by have := HUB.out.2; omega⟩
            simp only [Fo.vals] at hc
            have HCX : Hid (∀ V U1, Chg W V U U1 → V.cell? ⟨bb, oo + i * 9, none⟩ = some (.string con) ∧ V.cell? ⟨bb, oo + i * 9 + 1, none⟩ = some (.slice ca cn cc) ∧ SR V (fun c => c < B0) ca cc CS ∧ Nd.Ok V (fun c => c < B0) ⟨bb, oo + i * 9 + 2, y⟩) := fun V U1 c1 => by
              have hcV := Cel.kept hc c1.kp (hU bb hb).2 (hU bb hb).1
              refine ⟨hcV 0 _ rfl, hcV 1 _ rfl, sc.kept c1.kp (fun c' hc' => hU c' hc'), ⟨hy, fun j v hv => ?_, hxs2.kept c1.kp (fun c' hc' => hU c' hc'), hb⟩⟩
              have := hcV (j + 2) v (by simpa using hv)
              rw [show oo + i * 9 + 2 + j = oo + i * 9 + (j + 2) from by omega]
              exact this
            have c6 : wr.cell? ⟨db, dd + 6, none⟩ = some (.slice (some ⟨bb, oo, none⟩) an ac) := HCE.out wr U' hKB.out.ch 6 _ rfl
            obtain ⟨q6, -⟩ := hKB.out.cel (i := 1) rfl
            have q6' : wr.cell? ⟨q, 6, none⟩ = some (.slice a i c) := q6
            have q6d : wr.drew.cell? ⟨q, 6, none⟩ = some (.slice a i c) := q6
            have kd : Kept (fun _ => True) wr wr.drew := Kept.drew _ _
            have KBd := hide (hKB.out.keep kd)
            obtain ⟨x0, x1, -, -⟩ := HCX.out wr U' hKB.out.ch
            have x0d : wr.drew.cell? ⟨bb, oo + i * 9, none⟩ = some (.string con) := x0
            have x1d : wr.drew.cell? ⟨bb, oo + i * 9 + 1, none⟩ = some (.slice ca cn cc) := x1
            have HC1 := hide (KBd.out.bk.number2 con (by omega) (by omega))
            have HC2 : Hid (∀ W5 U5 T5, BK B0 b W5 U5 T5 → Chg wr.drew W5 U' U5 → T5.length ≤ T'.length + 1 → Calls Try.prog 49 #[.pointer (some ⟨b, 0, none⟩), .slice ca cn cc] W5 fun e w => ∃ v, e = .returned v ∧ NsP B0 b W5 U5 T5 CS v w) := fun W5 U5 T5 h2 h3 h4 => i_numbers2 h2 ca cn cc CS ecn (HCX.out W5 U5 (KBd.out.ch.trans h3)).2.2.1 hcw (by omega)
            have HC3 : Hid (∀ W6 U6 T6, BK B0 b W6 U6 T6 → Chg wr.drew W6 U' U6 → T6.length ≤ T'.length + 1 + CS.length → Calls Try.prog 26 #[.pointer (some ⟨b, 0, none⟩), .pointer (some ⟨bb, oo + i * 9 + 2, none⟩)] W6 fun e w => ∃ v, e = .returned v ∧ ∃ (q : Nat) (U' : Nat → Prop) (T' : List ByteArray), v = .pointer (some ⟨q, 0, none⟩) ∧ BK B0 b w U' T' ∧ Chg W6 w U6 U' ∧ T6 <+: T' ∧ T'.length ≤ T6.length + y.size ∧ Kn w (fun c => W6.heap.size ≤ c ∧ c < w.heap.size ∧ ¬ U' c) T' false (rdK y) [q]) := fun W6 U6 T6 h2 h3 h4 => ih B0 b ⟨bb, oo + i * 9 + 2, y⟩ W6 U6 T6 (by show y.size ≤ m; omega) (by show y.wt ≤ _; omega) (by show T6.length + y.size ≤ _; omega) (HCX.out W6 U6 (KBd.out.ch.trans h3)).2.2.2 h2
            have HBN : Hid (rr.size ≤ ak.size ∧ rr.wt ≤ ak.wt ∧ T'.length + 1 + CS.length + y.size + rr.size ≤ T.length + 1 + nk.size + kk.size + ak.size ∧ ab.length = i ∧ CS.length = cn) := ⟨by omega, by omega, by omega, g2, ecn⟩
            obtain ⟨yk, ynm, ymn, yla, yln, ylc, ylk, yna, ynn, ync, ynk, yka, ykn, ykc, ykk, yaa, yan, yac, yak, hye, -⟩ := core_open hy
            have HDN : Hid (rdK y = .nd ⟨⟨#[]⟩, [], yk, ynm, ymn, rdU ylk, rdS ynk⟩ (rdK ykk) (rdA yak) .nil ∧ rdA ak = Tm.app (Tm.app Da (.nd ⟨con, CS, yk, ynm, ymn, rdU ylk, rdS ynk⟩ (rdK ykk) (rdA yak) .nil)) (rdA rr)) := by
              refine ⟨by rw [hye, rdK_nd, rdK_nil], ?_⟩
              rw [hDa.out, Tm.app_assoc]
              congr 1
              rw [hye]
              simp only [Fo.app]
              rw [rdA_nd, hCS]
              rfl
            have HAL : Hid (∀ (W5 W6 W7 V4 V5 : World) (U5 U6 U7 : Nat → Prop) (T5 T6 T7 : List ByteArray) (ns : List Nat) (q1 : Nat) (cv : Value), NI B0 b W5 U5 T5 CS CS.length W6 U6 T6 ns → Chg W6 W7 U6 U7 → BK B0 b W7 U7 T7 → T6 <+: T7 → Kn W7 (fun c => W6.heap.size ≤ c ∧ c < W7.heap.size ∧ ¬ U7 c) T7 false (rdK y) [q1] → Kept (fun _ => True) W7 V4 → Bx V4 W7.heap.size [cv, .slice (some ⟨W5.heap.size, 0, none⟩) CS.length CS.length, .pointer (some ⟨q1, 0, none⟩)] → Kept (fun _ => True) V4 V5 → Kn V5 (fun c => W5.heap.size ≤ c ∧ c < V4.heap.size ∧ ¬ U7 c) T7 true (.nd ⟨con, CS, yk, ynm, ymn, rdU ylk, rdS ynk⟩ (rdK ykk) (rdA yak) .nil) [W7.heap.size]) := fun W5 W6 W7 V4 V5 U5 U6 U7 T5 T6 T7 ns q1 cv h1 h2 h3 h4 h5 h6 h7 h8 => by
              rw [HDN.out.1] at h5
              exact Kn.kept h8 (fun c' hc' => ⟨trivial, hc'.2.1⟩) _ _ _ (alt_made h1 h2 h3 h4 h5 (h' := ⟨con, CS, yk, ynm, ymn, rdU ylk, rdS ynk⟩) rfl rfl rfl rfl h6 h7)
            have HR1 := hide hR1
            have HSX : Hid (∀ (W5 V V5 : World) (U5 : Nat → Prop), wr.heap.size ≤ W5.heap.size → V.heap.size ≤ V5.heap.size → ∀ c', (W5.heap.size ≤ c' ∧ c' < V.heap.size ∧ ¬ U5 c') → W.heap.size ≤ c' ∧ c' < V5.heap.size ∧ ¬ U5 c' ∧ c' ≠ q ∧ kv.ownBlock ≠ some c' ∧ (Value.slice a i c).ownBlock ≠ some c') := fun W5 V V5 U5 f2 f3 c' hc' => by
              have h1 := hKB.out.ch.kp.size
              refine ⟨by omega, by omega, hc'.2.2, by have := hKB.out.qq.2.1; omega, fun e => ?_, fun e => ?_⟩
              · have := (World.ownsRow.lt hKB.out.kr c' e).2
                omega
              · have := (World.ownsRow.lt hKB.out.ar c' e).2
                omega
            have H63 : Hid (i + 1 ≤ maxLen ∧ (i + 1) * 8 ≤ 140737488355328) := by
              have h1 := HKN.out.2
              unfold Hid maxLen
              omega
            clear hc hxs1 hxs2 hx hb hck hy hcon sc ecn hcl hCS hcw hU g1 g2 g3 g4 s1 s2 s3 s4 s5 hB hRd hDa hR1 kd q6 hye
            go_upto_region 11 with fail
            go_region_law (first
              | (refine step_call (by rfl) 48 #[.pointer (some ⟨b, 0, none⟩), .string con] (by simp [go_sem]) _ HC1.out ?_; rintro v5 W5 ⟨i5, U5, T5, rfl, f0, f1, f2, f3, f4⟩; have KB5 := hide (KBd.out.call f1 f2 f3); have q65 : W5.cell? ⟨q, 6, none⟩ = some (.slice a i c) := (KB5.out.cel (i := 1) rfl).1; have x15 := (HCX.out W5 U5 KB5.out.ch).2.1; have HC5 := hide (HC2.out W5 U5 T5 f1 f2 f4); have F2 := hide f2; have F3 := hide f3; have F4 := hide f4; clear f0 f1 f2 f3 f4)
              | (refine step_call (by rfl) 49 #[.pointer (some ⟨b, 0, none⟩), .slice ca cn cc] (by simp [go_sem]) _ HC5.out ?_; rintro v6 W6 ⟨U6, T6, ns, rfl, ni⟩; have KB6 := hide (KB5.out.call ni.bk ni.ch ni.pre); have q66 : W6.cell? ⟨q, 6, none⟩ = some (.slice a i c) := (KB6.out.cel (i := 1) rfl).1; have N6 := hide ni; have HC6 := hide (HC3.out W6 U6 T6 ni.bk (F2.out.trans ni.ch) (by have := F4.out; have := ni.len; omega)); clear ni)
              | (refine step_call (by rfl) 26 #[.pointer (some ⟨b, 0, none⟩), .pointer (some ⟨bb, oo + i * 9 + 2, none⟩)] (by simp [go_sem]) _ HC6.out ?_; rintro v7 W7 ⟨q1, U7, T7, rfl, e1, e2, e3, e4, e5⟩; have KB7 := hide (KB6.out.call e1 e2 e3); have q67 : W7.cell? ⟨q, 6, none⟩ = some (.slice a i c) := (KB7.out.cel (i := 1) rfl).1; have E1 := hide e1; have E2 := hide e2; have E3 := hide e3; have E4 := hide e4; have E5 := hide e5; have KB8 := hide (KB7.out.keep (Kept.alloc (fun _ => True) W7 (.cells #[.int .i64 (i5 : Int), .slice (some ⟨W5.heap.size, 0, none⟩) CS.length CS.length, .pointer (some ⟨q1, 0, none⟩)] 103))); have q68 : (W7.alloc (.cells #[.int .i64 (i5 : Int), .slice (some ⟨W5.heap.size, 0, none⟩) CS.length CS.length, .pointer (some ⟨q1, 0, none⟩)] 103)).cell? ⟨q, 6, none⟩ = some (.slice a i c) := (KB8.out.cel (i := 1) rfl).1; have KB9 := hide (KB8.out.keep (Kept.alloc (fun _ => True) _ (.cells #[.pointer (some ⟨W7.heap.size, 0, none⟩)] 101))); have q69 : ((W7.alloc (.cells #[.int .i64 (i5 : Int), .slice (some ⟨W5.heap.size, 0, none⟩) CS.length CS.length, .pointer (some ⟨q1, 0, none⟩)] 103)).alloc (.cells #[.pointer (some ⟨W7.heap.size, 0, none⟩)] 101)).cell? ⟨q, 6, none⟩ = some (.slice a i c) := (KB9.out.cel (i := 1) rfl).1; have HB9 : Hid (((W7.alloc (.cells #[.int .i64 (i5 : Int), .slice (some ⟨W5.heap.size, 0, none⟩) CS.length CS.length, .pointer (some ⟨q1, 0, none⟩)] 103)).alloc (.cells #[.pointer (some ⟨W7.heap.size, 0, none⟩)] 101)).heap[W7.heap.size + 1]? = some (.cells #[.pointer (some ⟨W7.heap.size, 0, none⟩)] 101)) := (by have h := heap_new (W7.alloc (.cells #[.int .i64 (i5 : Int), .slice (some ⟨W5.heap.size, 0, none⟩) CS.length CS.length, .pointer (some ⟨q1, 0, none⟩)] 103)) (.cells #[.pointer (some ⟨W7.heap.size, 0, none⟩)] 101); have e : (W7.alloc (.cells #[.int .i64 (i5 : Int), .slice (some ⟨W5.heap.size, 0, none⟩) CS.length CS.length, .pointer (some ⟨q1, 0, none⟩)] 103)).heap.size = W7.heap.size + 1 := (by simp); rw [e] at h; exact h); clear e1 e2 e3 e4 e5)
              | (refine ur_draw (by rfl) _ _ 96 101 (by rfl) Try.info101 Try.underlying96 rfl (by decide) W.heap.size _ (.slice a i c) i (ab.map pv) [.pointer (some ⟨W7.heap.size, 0, none⟩)] (W7.heap.size + 1) 1 (by rfl) (by have h := KB9.out.ar; rw [HBN.out.2.2.2.1] at h; exact h) (by rfl) HB9.out (by have := KB9.out.ch.kp.size; exact this) rfl (by simp [Value.oneCell']) H63.out.1 H63.out.2 ?_; intro g7 cp w7 hO7 hG7 hat7; have HE7 := hide (KB9.out.alt HBN.out.2.2.2.1.symm (HAL.out W5 W6 W7 (W7.alloc (.cells #[.int .i64 (i5 : Int), .slice (some ⟨W5.heap.size, 0, none⟩) CS.length CS.length, .pointer (some ⟨q1, 0, none⟩)] 103)) _ U5 U6 U7 T5 T6 T7 ns q1 _ N6.out E2.out E1.out E3.out E5.out (Kept.alloc _ _ _) (Bx.new _ _ _) (Kept.alloc _ _ _)) (HSX.out W5 (W7.alloc (.cells #[.int .i64 (i5 : Int), .slice (some ⟨W5.heap.size, 0, none⟩) CS.length CS.length, .pointer (some ⟨q1, 0, none⟩)] 103)) _ U7 F2.out.kp.size (by simp)) hO7 hG7 hat7); have t1 := HE7.out.1.1; have t2 := HE7.out.1.2; clear hO7 hG7 hat7)
              | fail)
            all_goals
              go_wp2_with fail
              go_roundw
              case rel =>
                refine ⟨i + 1, rr, _, U7, T7, ab ++ [W7.heap.size], _, _, _, by go_num, by omega, HDN.out.2, HR1, HE7.out.2, ?_⟩
                obtain ⟨h1, h2, h3, h4, h5⟩ := HBN.out
                exact ⟨by have := F4.out; have := N6.out.len; have := E4.out; omega, by rw [List.length_append, h4]; rfl, h1, h2⟩
              case measure => simp [intOf]; omega
          · have hii : ¬ (i : Int) < (an : Int) := by omega
            obtain ⟨rfl, ein⟩ := hRd.out.done hi
            have hDa2 := hDa.out
            rw [rdA_nil, Tm.app_nil] at hDa2
            subst hDa2
            have HEND : Hid (∃ (q' : Nat) (U' : Nat → Prop) (T' : List ByteArray), q' = q ∧ BK B0 b wr U' T' ∧ Chg W wr U U' ∧ T <+: T' ∧ T'.length ≤ T.length + (7 + nk.size + kk.size + ak.size) ∧ Kn wr (fun c => W.heap.size ≤ c ∧ c < wr.heap.size ∧ ¬ U' c) T' false (.nd ⟨⟨#[]⟩, [], k, nm, mn, rdU lk, NS⟩ (rdK kk) (rdA ak) .nil) [q]) := by
              refine ⟨q, U', T', rfl, hKB.out.bk, hKB.out.ch, hKB.out.pre, ?_, ?_⟩
              · have h := hB.out.1
                simp only [Fo.size] at h
                omega
              · have h := hKB.out.done ⟨#[]⟩ (rdU lk)
                rw [ht] at h
                exact h
            clear hKB hB hDa hRd ein
            go_wp2_with fail
            go_ret
            obtain ⟨q', U9, T9, rfl, h1, h2, h3, h4, h5⟩ := HEND.out
            exact ⟨_, rfl, q', rfl, U9, T9, h1, h2, h3, by simp only [Fo.size]; omega, h5⟩

end Go.Proofs.Ytcnokpaicnjkfaa.F
