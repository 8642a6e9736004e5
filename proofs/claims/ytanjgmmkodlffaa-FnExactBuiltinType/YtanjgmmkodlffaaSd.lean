import Derived.Test.YtanjgmmkodlffaaSc
import Derived.Deep.RegionLaw
namespace Go.Proofs.Ytanjgmmkodlffaa
open Go.RowKit Go.Joins

/-- Two pointers laid in a block of their own. -/
structure PairAt (A V : World) (B : Nat) (p q : Addr) : Prop where
  kp : Kept (fun _ => True) A V
  c0 : V.cell? ⟨B, 0, none⟩ = some (.pointer (some p))
  c1 : V.cell? ⟨B, 1, none⟩ = some (.pointer (some q))
  ge : A.heap.size ≤ B

theorem PairAt.new (A : World) (p q : Addr) : PairAt A (A.alloc (.cells #[.pointer (some p), .pointer (some q)] 76)).drew A.heap.size p q :=
  ⟨(Kept.alloc _ _ _).trans (Kept.drew _ _), by simp, by simp, Nat.le_refl _⟩

set_option maxHeartbeats 8000000 in
set_option maxRecDepth 100000 in
/-- The program's SameType. -/
theorem isame (k ix : Int) (nm : ByteArray) (a : Option Addr) (cap : Nat) (ks : Fo) (k' ix' : Int) (nm' : ByteArray) (a' : Option Addr) (cap' : Nat) (ks' : Fo) (W : World) (z : Nat) (q : Bool)
    (hk : (Lit.int .i64 k).wf = true) (hix : (Lit.int .i64 ix).wf = true) (hnm : nm.size ≤ maxLen) (hk' : (Lit.int .i64 k').wf = true) (hix' : (Lit.int .i64 ix').wf = true) (hnm' : nm'.size ≤ maxLen)
    (hs : ks.Sl W (fun b => b < W.heap.size) a cap) (hs' : ks'.Sl W (fun b => b < W.heap.size) a' cap') (hnd : (blk a ks.len ++ ks.inn).Nodup) (hlv : ∀ c ∈ blk a ks.len ++ ks.inn, LiveB W c ∧ c < W.heap.size ∧ c < z) (hlv' : ∀ c ∈ blk a' ks'.len ++ ks'.inn, LiveB W c ∧ c < W.heap.size ∧ z ≤ c)
    (hsz : ks.size ≤ 1048576) (hq : q = true ↔ (Fo.cons k ix nm a cap ks .nil).sim (.cons k' ix' nm' a' cap' ks' .nil)) :
    Calls Try.prog 19 #[.agg #[.int .i64 k, .int .i64 ix, .string nm, .slice a ks.len cap], .agg #[.int .i64 k', .int .i64 ix', .string nm', .slice a' ks'.len cap']] W fun e W' => e = .returned (.bool q) ∧ Below W.heap.size W W' := by
  obtain ⟨W2, hW2⟩ : ∃ W2, ((W.alloc (.cells #[.int .i64 k, .int .i64 ix, .string nm, .slice a ks.len cap] 25)).alloc (.cells #[.int .i64 k', .int .i64 ix', .string nm', .slice a' ks'.len cap'] 25)).alloc (.map #[] 0) = W2 := ⟨_, rfl⟩
  have HB2 : Hid (Below W.heap.size W W2) := by unfold Hid; rw [← hW2]; exact below_alloc3 _ _ _ _
  have HQ2 : Hid (Box4 W2 W.heap.size (.int .i64 k) (.int .i64 ix) (.string nm) (.slice a ks.len cap)) := by
    unfold Hid; rw [← hW2]; exact ((Box4.new W _ _ _ _ 25).alloc _).alloc _
  have HQ3 : Hid (Box4 W2 (W.heap.size + 1) (.int .i64 k') (.int .i64 ix') (.string nm') (.slice a' ks'.len cap')) := by
    unfold Hid; rw [← hW2]
    have := (Box4.new (W.alloc (.cells #[.int .i64 k, .int .i64 ix, .string nm, .slice a ks.len cap] 25)) (.int .i64 k') (.int .i64 ix') (.string nm') (.slice a' ks'.len cap') 25).alloc (.map #[] 0)
    rwa [World.size_alloc] at this
  have HZ2 : Hid (W2.heap.size = W.heap.size + 1 + 1 + 1) := by unfold Hid; rw [← hW2]; simp
  have HLM : Hid (LM W2 (W.heap.size + 1 + 1) []) := by
    unfold Hid; rw [← hW2]
    have := LM.start ((W.alloc (.cells #[.int .i64 k, .int .i64 ix, .string nm, .slice a ks.len cap] 25)).alloc (.cells #[.int .i64 k', .int .i64 ix', .string nm', .slice a' ks'.len cap'] 25))
    rwa [World.size_alloc, World.size_alloc] at this
  have HW2 := hide hW2
  clear hW2
  have hmm := run_makeMap72 ((W.alloc (.cells #[.int .i64 k, .int .i64 ix, .string nm, .slice a ks.len cap] 25)).alloc (.cells #[.int .i64 k', .int .i64 ix', .string nm', .slice a' ks'.len cap'] 25))
  go_enter Try.func19, Try.ntmps19
  go_upto_region 2 with fail
  rw [HW2.out]
  clear HW2 hmm
  obtain ⟨-, x0, xi, x1, x2, -, -, -, -⟩ := HQ2.out
  obtain ⟨-, y0, yi, y1, y2, -, -, -, -⟩ := HQ3.out
  obtain ⟨-, a0, ai, a1, a2, -, -, -, -⟩ := HQ3.out.alloc (.cells #[.int .i64 k, .int .i64 ix, .string nm, .slice a ks.len cap] 25)
  obtain ⟨-, c0, ci, c1, c2, -, -, -, -⟩ := (HQ3.out.alloc (.cells #[.int .i64 k, .int .i64 ix, .string nm, .slice a ks.len cap] 25)).alloc (.cells #[.slice (some ⟨W2.heap.size, 0, none⟩) 1 1] 23)
  obtain ⟨-, d0, di, d1, d2, -, -, -, -⟩ := HQ2.out.alloc (.cells #[.int .i64 k', .int .i64 ix', .string nm', .slice a' ks'.len cap'] 25)
  obtain ⟨-, e0, ei, e1, e2, -, -, -, -⟩ := (HQ2.out.alloc (.cells #[.int .i64 k', .int .i64 ix', .string nm', .slice a' ks'.len cap'] 25)).alloc (.cells #[.slice (some ⟨W2.heap.size, 0, none⟩) 1 1] 23)
  go_cut [6, 7] (fun s6 s7 wx => ∃ b1 p b1' p' : Nat, s6 = .slice (some ⟨p, 0, none⟩) 1 1 ∧ s7 = .slice (some ⟨p', 0, none⟩) 1 1 ∧ Blt W2 wx b1 p b1' p' #[.int .i64 k, .int .i64 ix, .string nm, .slice a ks.len cap] #[.int .i64 k', .int .i64 ix', .string nm', .slice a' ks'.len cap'])
  case first =>
    go_region
    all_goals
      go_wp2_with fail
      go_meet
      case rel =>
        first
          | exact ⟨_, _, _, _, rfl, rfl, blt0 _ _ _⟩
          | exact ⟨_, _, _, _, rfl, rfl, blt1 _ _ _⟩
          | exact ⟨_, _, _, _, rfl, rfl, blt2 _ _ _⟩
          | exact ⟨_, _, _, _, rfl, rfl, blt3 _ _ _⟩
          | exact ⟨_, _, _, _, rfl, rfl, blt4 _ _ _⟩
          | exact ⟨_, _, _, _, rfl, rfl, blt5 _ _ _⟩
  case rest =>
    obtain ⟨b1, p, b1', p', rfl, rfl, hB⟩ := hcut
    rename World => W3
    have hz2 := HZ2.out
    have hk3 := hB.kp.size
    have hne := hB.ne
    have hp1 : b1 < W3.heap.size := (Array.getElem?_eq_some_iff.1 hB.h1).1
    have hp2 : p < W3.heap.size := (Array.getElem?_eq_some_iff.1 hB.h2).1
    have hp3 : b1' < W3.heap.size := (Array.getElem?_eq_some_iff.1 hB.h3).1
    have hp4 : p' < W3.heap.size := (Array.getElem?_eq_some_iff.1 hB.h4).1
    obtain ⟨x, hx⟩ : ∃ x : Fx, x = ⟨W3, fun c => c < W.heap.size ∨ c = b1 ∨ c = b1', W.heap.size + 1 + 1, p, p', z⟩ := ⟨_, rfl⟩
    have e3 : x.W3 = W3 := by rw [hx]
    have eM : x.M = W.heap.size + 1 + 1 := by rw [hx]
    have eT : x.T = fun c => c < W.heap.size ∨ c = b1 ∨ c = b1' := by rw [hx]
    have ep : x.p = p := by rw [hx]
    have ep' : x.p' = p' := by rw [hx]
    have ez : x.z = z := by rw [hx]
    have hok : x.ok := by
      refine ⟨fun c hc => ?_, ?_, ?_⟩
      · rw [eT] at hc
        rw [e3, eM, ep, ep']
        rcases hc with hc | hc | hc <;> omega
      · rw [e3, eM, ep, ep']; omega
      · rw [e3, ep, ep']; omega
    have kW : Kept (fun c => c < W.heap.size) W W3 := (Kept.of_below HB2.out (fun c _ h => h)).trans (hB.kp.mono (fun _ _ _ => trivial))
    have HW3 : Hid (Below W.heap.size W W3) := Below.kept HB2.out hB.kp (fun _ _ => trivial) (Nat.le_refl _)
    have hT0 : ∀ c, c < W.heap.size → x.T c := fun c hc => by rw [eT]; exact .inl hc
    have hsl : ks.Sl W3 x.T a cap := (hs.kept kW (fun b hb => ⟨hb, hb⟩)).mono hT0
    have hsl' : ks'.Sl W3 x.T a' cap' := (hs'.kept kW (fun b hb => ⟨hb, hb⟩)).mono hT0
    have hcl : ∀ (j : Nat) (v : Value), (#[.int .i64 k, .int .i64 ix, .string nm, .slice a ks.len cap] : Array Value)[j]? = some v → W3.cell? ⟨b1, j, none⟩ = some v := fun j v hv => by simp [World.cell?, hB.h1, hv]
    have hcl' : ∀ (j : Nat) (v : Value), (#[.int .i64 k', .int .i64 ix', .string nm', .slice a' ks'.len cap'] : Array Value)[j]? = some v → W3.cell? ⟨b1', j, none⟩ = some v := fun j v hv => by simp [World.cell?, hB.h3, hv]
    have hO0 : ScO x q W (.slice (some ⟨p, 0, none⟩) 1 1) (.slice (some ⟨p', 0, none⟩) 1 1) W3 (1 + ks.size) := by
      refine ⟨[⟨some ⟨b1, 0, none⟩, 1, .cons k ix nm a cap ks .nil, some ⟨b1', 0, none⟩, 1, .cons k' ix' nm' a' cap' ks' .nil⟩], some ⟨p, 0, none⟩, some ⟨p', 0, none⟩, 1, 1, [], rfl, rfl, ⟨?_, ?_, ?_, ?_, ?_, ?_, ?_, ?_, ?_, ?_, ?_⟩, ?_, ?_, ?_, ?_, HW3.out⟩
      · exact ⟨⟨rfl, .inr ⟨p, 1, _, rfl, Nat.zero_le _, hB.h2, Nat.le_refl _, by unfold maxLen; omega, rfl, rfl⟩⟩, rfl⟩
      · exact ⟨⟨rfl, .inr ⟨p', 1, _, rfl, Nat.zero_le _, hB.h4, Nat.le_refl _, by unfold maxLen; omega, rfl, rfl⟩⟩, rfl⟩
      · intro c hc; rw [ep]; exact .inl (Option.some.inj hc).symm
      · intro c hc; rw [ep']; exact .inl (Option.some.inj hc).symm
      · intro c hc h; have h1 : p = c := Option.some.inj hc; have h2 : p' = c := Option.some.inj h; omega
      · rw [eM]; exact HLM.out.kept hB.kp trivial
      · rw [e3]; exact Kept.refl _ _
      · intro e he
        obtain rfl := List.mem_singleton.1 he
        rw [e3]
        refine ⟨⟨by simp [Fo.len], (by show 1 ≤ maxLen; unfold maxLen; omega), fun _ => ⟨b1, 0, rfl, by rw [eT]; exact .inr (.inl rfl), ?_⟩⟩, ⟨by simp [Fo.len], (by show 1 ≤ maxLen; unfold maxLen; omega), fun _ => ⟨b1', 0, rfl, by rw [eT]; exact .inr (.inr rfl), ?_⟩⟩, rfl, Nat.succ_pos _⟩
        · exact ⟨hk, hix, hnm, hcl 0 _ rfl, hcl 1 _ rfl, hcl 2 _ rfl, hcl 3 _ rfl, hsl.1, hsl.2.1, hsl.2.2, trivial⟩
        · exact ⟨hk', hix', hnm', hcl' 0 _ rfl, hcl' 1 _ rfl, hcl' 2 _ rfl, hcl' 3 _ rfl, hsl'.1, hsl'.2.1, hsl'.2.2, trivial⟩
      · simpa [winn, Fo.inn] using hnd
      · intro c hc
        have hc2 : c ∈ blk a ks.len ++ ks.inn := by simpa [winn, Fo.inn] using hc
        obtain ⟨h1, h2, h3⟩ := hlv c hc2
        rw [e3, ez]
        exact ⟨h1.kept kW h2 h2, hT0 c h2, h3⟩
      · intro c hc
        have hc2 : c ∈ blk a' ks'.len ++ ks'.inn := by simpa [winn', Fo.inn] using hc
        obtain ⟨h1, h2, h3⟩ := hlv' c hc2
        rw [e3, ez]
        exact ⟨h1.kept kW h2 h2, hT0 c h2, h3⟩
      · rw [hq]; simp
      · simp [wsz, Fo.size]
      · simp [wsz, Fo.size]
      · simp [wsz, Fo.size]; omega
    have HEM := hide eM
    have HWT : Hid (∀ V, Kept (fun c => c ≠ x.M ∧ c ≠ x.p ∧ c ≠ x.p') x.W3 V → Below W.heap.size W V) := fun V k => by
      rw [e3, eM, ep, ep'] at k
      exact Below.kept HW3.out k (fun c hc => by omega) (Nat.le_refl _)
    have HO0 := hide hO0
    have HOK := hide hok
    clear hO0 hok hcl hcl' hsl hsl' hT0 kW e3 eM eT ep ep' ez hx hB hne hp1 hp2 hp3 hp4 hk3 hz2 HLM HQ2 HQ3 HZ2 HB2 hq hlv hlv' hnd hs hs' x0 xi x1 x2 y0 yi y1 y2 a0 ai a1 a2 c0 ci c1 c2 d0 di d1 d2 e0 ei e1 e2 hk hix hnm hk' hix' hnm'
    go_wp2_with fail
    go_loopw [6, 7] (fun s6 s7 wr => ∃ m, ScO x q W s6 s7 wr m) (fun s6 s7 wr => least (ScO x q W s6 s7 wr))
    case atStart => exact ⟨_, HO0.out⟩
    case round =>
      have hmin := least_spec hrel
      obtain ⟨st, la, ra, lc, rc, Bs, rfl, rfl, HI, HQ, hme, hlw, hwb, HBE⟩ := hmin
      have HME := hide hme
      clear hme hrel
      rcases List.eq_nil_or_concat st with rfl | ⟨st, e, rfl⟩
      · have HQ2 : Hid (q = true) := HQ.2 (fun e he => by simp at he)
        have HBE2 := hide HBE
        clear HI HQ HBE hlw hwb
        go_wp2_with fail
        go_ret
        exact ⟨by rw [HQ2.out]; rfl, HBE2.out⟩
      · have hcc : st.concat e = st ++ [e] := List.concat_eq_append
        rw [hcc] at HI HQ hlw hwb HME ⊢
        have hlen : (st ++ [e]).length = st.length + 1 := by simp
        rw [hlen] at hlw HI HME ⊢
        clear hcc
        have hll := HI.l
        have hrr := HI.r
        rw [hlen, List.map_append] at hll hrr
        obtain ⟨bl, lc', e1, hlc, hlm, hcl, hvl⟩ := VR.last hll
        obtain ⟨br, rc', e2, hrc, hrm, hcr, hvr⟩ := VR.last hrr
        simp only [Value.slice.injEq] at e1 e2
        obtain ⟨rfl, -, rfl⟩ := e1
        obtain ⟨rfl, -, rfl⟩ := e2
        have hn0 := ScN.start HI hvl hvr rfl rfl HQ HBE
        have hpp := (HI.en e (by simp)).p
        have hnn := (HI.en e (by simp)).n
        obtain ⟨ea, ec, F, ea', ec', F'⟩ := e
        obtain ⟨n, hn⟩ : ∃ n, n = st.length := ⟨_, rfl⟩
        obtain ⟨tot, htot⟩ : ∃ tot, tot = wsz (st ++ [⟨ea, ec, F, ea', ec', F'⟩]) := ⟨_, rfl⟩
        dsimp only at hn0 hpp hnn
        rw [← htot] at hn0 hwb HME
        rw [← hn] at hn0 hlw hlc hrc hcl hcr hvl hvr HME ⊢
        have hnb : n + 1 ≤ 1048577 := by omega
        have hlc2 : n ≤ lc := by omega
        have hrc2 : n ≤ rc := by omega
        have HN := hide hn
        have HN0 := hide hn0
        have HWB := hide hwb
        unfold Ent.lv at hcl
        unfold Ent.rv at hcr
        dsimp only at hcl hcr
        rw [← hnn] at hcr
        have HNN := hide hnn
        clear hnn
        have hnx : F.len ≤ 9223372036854775807 := by
          have h1 := HI.en _ (List.mem_append_right _ (List.mem_singleton_self _))
          have h2 := h1.l.1
          have h3 := h1.l.2.1
          dsimp only at h2 h3
          simp only [maxLen] at h3
          omega
        clear HI HQ HBE hll hrr hlen hlw hwb hn hvl hvr hn0 htot
        go_upto_region 5 with fail
        go_cut [9, 10] (fun s9 s10 wx => s9 = .slice ea F.len ec ∧ s10 = .slice ea' F.len ec' ∧ Kept (fun _ => True) wr wx)
        case first =>
          go_region
          all_goals
            go_wp2_with fail
            go_meet
            case rel => exact ⟨rfl, rfl, Kept.drew _ _⟩
        case rest =>
          obtain ⟨rfl, rfl, hcb⟩ := hcut
          rename World => wx
          go_upto_region 6 with fail
          go_cut [6, 7] (fun s6 s7 wy => s6 = .slice (some ⟨bl, 0, none⟩) n lc ∧ s7 = .slice (some ⟨br, 0, none⟩) n rc ∧ Kept (fun _ => True) wx wy)
          case first =>
            go_region
            all_goals
              go_wp2_with fail
              go_meet
              case rel => exact ⟨rfl, rfl, Kept.drew _ _⟩
          case rest =>
            obtain ⟨rfl, rfl, hcb2⟩ := hcut
            rename World => wy
            have HN1 := hide (HN0.out.keep (hcb.trans hcb2))
            clear HN0 hcb hcb2 hcl hcr hlc hrc hlc2 hrc2
            go_wp2_with fail
            go_loopw [6, 7, 43] (fun s6 s7 s43 wr => ∃ (i : Nat) (st2 : List Ent) (la ra : Option Addr) (lc rc n2 : Nat) (Bs : List Nat) (X X' : Fo), s6 = .slice la n2 lc ∧ s7 = .slice ra n2 rc ∧ s43 = .int .i64 i ∧ i ≤ F.len ∧ Hid (n2 = st2.length) ∧ Hid (ScN x q W ea ea' F.len tot i st2 (.slice la n2 lc) (.slice ra n2 rc) Bs X X' wr)) (fun _ _ s43 _ => F.len - (intOf s43).toNat)
            case atStart => exact ⟨0, st, _, _, _, _, n, Bs, F, F', rfl, rfl, rfl, Nat.zero_le _, HN, HN1⟩
            case round =>
              obtain ⟨i, st2, la, ra, lc2, rc2, n2, Bs2, X, X', rfl, rfl, rfl, hi, hn2, HX⟩ := hrel
              have hl1 := HX.out.l1
              have hl2 := HX.out.l2
              cases X with
              | nil =>
                simp only [Fo.len] at hl1
                have hlt' : ¬ (i : Int) < F.len := by omega
                have HST := hide (HX.out.stop hn2.out HWB.out)
                go_wp2_with fail
                go_roundw
                case rel => exact ⟨_, HST.out⟩
                case measure =>
                  have h1 := least_le HST.out
                  have h2 := HME.out
                  have h3 := HX.out.sz
                  simp only [Fo.size] at h3
                  omega
              | cons k1 ix1 nm1 a1 c1 ks1 r =>
                cases X' with
                | nil => simp only [Fo.len] at hl1 hl2; omega
                | cons k2 ix2 nm2 a2 c2 ks2 r' =>
                  simp only [Fo.len] at hl1 hl2
                  have hlt' : (i : Int) < F.len := by omega
                  obtain ⟨b, o, rfl, hb, -, -, -, u0, ui, u1, u2, h4, h5, h6, -⟩ := HX.out.r1 (by simp [Fo.len])
                  obtain ⟨b', o', rfl, hb', -, -, -, v0, vi, v1, v2, g4, g5, g6, -⟩ := HX.out.r2 (by simp [Fo.len])
                  have HSQ : Hid (∀ V, Kept (fun c => c ≠ x.M ∧ c ≠ x.p ∧ c ≠ x.p') x.W3 V → V.cell? ⟨b, o + i * 4, none⟩ = some (.int .i64 k1) ∧ V.cell? ⟨b, o + i * 4 + 1, none⟩ = some (.int .i64 ix1) ∧ V.cell? ⟨b, o + i * 4 + 2, none⟩ = some (.string nm1) ∧ V.cell? ⟨b, o + i * 4 + 3, none⟩ = some (.slice a1 ks1.len c1) ∧ V.cell? ⟨b', o' + i * 4, none⟩ = some (.int .i64 k2) ∧ V.cell? ⟨b', o' + i * 4 + 1, none⟩ = some (.int .i64 ix2) ∧ V.cell? ⟨b', o' + i * 4 + 2, none⟩ = some (.string nm2) ∧ V.cell? ⟨b', o' + i * 4 + 3, none⟩ = some (.slice a2 ks2.len c2)) := fun V kV => by
                    have hc : ∀ (c j : Nat), x.T c → V.cell? ⟨c, j, none⟩ = x.W3.cell? ⟨c, j, none⟩ := fun c j hc => by
                      have ht := HOK.out.t c hc
                      exact kV.cell (p := ⟨c, j, none⟩) ht.1 ⟨ht.2.1, ht.2.2.1, ht.2.2.2⟩
                    exact ⟨(hc _ _ hb).trans u0, (hc _ _ hb).trans ui, (hc _ _ hb).trans u1, (hc _ _ hb).trans u2, (hc _ _ hb').trans v0, (hc _ _ hb').trans vi, (hc _ _ hb').trans v1, (hc _ _ hb').trans v2⟩
                  obtain ⟨qk, hqk⟩ : ∃ qk : Bool, qk = true ↔ k1 = k2 ∧ ix1 = ix2 ∧ nm1 = nm2 ∧ ks1.len = ks2.len := by
                    by_cases h : k1 = k2 ∧ ix1 = ix2 ∧ nm1 = nm2 ∧ ks1.len = ks2.len
                    · exact ⟨true, by simp [h]⟩
                    · exact ⟨false, by simp [h]⟩
                  have HC : Hid (∀ V, Kept (fun _ => True) wr V → Calls Try.prog 43 #[.agg #[.int .i64 k1, .int .i64 ix1, .string nm1, .slice a1 ks1.len c1], .agg #[.int .i64 k2, .int .i64 ix2, .string nm2, .slice a2 ks2.len c2]] V fun e w' => e = .returned (.bool qk) ∧ Kept (fun _ => True) wr w') := fun V kV =>
                    (sameTop_any k1 ix1 nm1 a1 ks1.len c1 k2 ix2 nm2 a2 ks2.len c2 V qk hqk).mono (fun e w' h => ⟨h.1, kV.trans (Kept.of_below h.2 (fun c hc _ => hc))⟩)
                  have HK3 : Hid (∀ V, Kept (fun _ => True) wr V → Kept (fun c => c ≠ x.M ∧ c ≠ x.p ∧ c ≠ x.p') x.W3 V) := fun V kV => HX.out.sc.kp.trans (kV.mono (fun _ _ _ => trivial))
                  have HQK := hide hqk
                  have HS1 : Hid (ks1.Sl x.W3 x.T a1 c1) := ⟨h4, h5, h6⟩
                  have HS2 : Hid (ks2.Sl x.W3 x.T a2 c2) := ⟨g4, g5, g6⟩
                  have k0' := HSQ.out wr.drew (HK3.out _ (Kept.drew _ _))
                  have HKD : Hid (Kept (fun _ => True) wr wr.drew) := Kept.drew _ _
                  clear u0 ui u1 u2 v0 vi v1 v2 h4 h5 h6 g4 g5 g6 hqk
                  go_upto_region 10 with fail
                  go_cut [55] (fun s55 wx => s55 = .bool (!qk) ∧ Kept (fun _ => True) wr wx)
                  case first =>
                    go_region_held3 (fun V => V.cell? ⟨b, o + i * 4, none⟩ = some (.int .i64 k1) ∧ V.cell? ⟨b, o + i * 4 + 1, none⟩ = some (.int .i64 ix1) ∧ V.cell? ⟨b, o + i * 4 + 2, none⟩ = some (.string nm1) ∧ V.cell? ⟨b, o + i * 4 + 3, none⟩ = some (.slice a1 ks1.len c1) ∧ V.cell? ⟨b', o' + i * 4, none⟩ = some (.int .i64 k2) ∧ V.cell? ⟨b', o' + i * 4 + 1, none⟩ = some (.int .i64 ix2) ∧ V.cell? ⟨b', o' + i * 4 + 2, none⟩ = some (.string nm2) ∧ V.cell? ⟨b', o' + i * 4 + 3, none⟩ = some (.slice a2 ks2.len c2))
                      (first | with_reducible exact k9' | with_reducible exact k0')
                      (first
                        | (go_at_call 43; refine (HC.out _ HKD.out).mono ?_; rintro e w9x ⟨rfl, b9x⟩; have k9' := HSQ.out w9x (HK3.out _ b9x)))
                    all_goals
                      go_wp2_with fail
                      go_meet
                      case rel => exact ⟨by simp, b9x⟩
                  case rest =>
                    obtain ⟨rfl, hcb⟩ := hcut
                    rename World => wx
                    have HF := hide (HX.out.keep hcb)
                    have HKx : Hid (Kept (fun _ => True) wr wx) := hcb
                    clear hcb k0' HC HX
                    cases qk with
                    | false =>
                      have HQ3 : Hid (q = false) := by
                        cases hqq : q
                        · rfl
                        · have h1 := (HF.out.sm.1 hqq).2
                          rw [sim_cons] at h1
                          exact absurd (HQK.out.2 ⟨h1.1, h1.2.1, h1.2.2.1, h1.2.2.2.1.len⟩) (by simp)
                      have HBx := hide HF.out.be
                      go_wp2_with fail
                      go_ret
                      exact ⟨by rw [HQ3.out]; rfl, HBx.out⟩
                    | true =>
                      have HEQ := hide (HQK.out.1 rfl)
                      obtain ⟨-, -, -, u2, -, -, -, v2⟩ := HSQ.out wx (HK3.out _ HKx.out)
                      by_cases hp : 0 < ks1.len
                      · have hp2 : 0 < ks2.len := by rw [← HEQ.out.2.2.2]; exact hp
                        obtain ⟨d1, p1, rfl, hd1, -⟩ := HS1.out.2.2 hp
                        obtain ⟨d2, p2, rfl, hd2, -⟩ := HS2.out.2.2 hp2
                        have hp' : (0 : Int) < ks1.len := by omega
                        have hp2' : (0 : Int) < ks2.len := by omega
                        have hz0 : ((ks1.len : Int) == 0) = false := beq_eq_false_iff_ne.2 (by omega)
                        obtain ⟨-, -, -, u3, -, -, -, v3⟩ := HSQ.out (wx.alloc (.cells #[.pointer none, .pointer none] 76)) (HK3.out _ (HKx.out.trans (Kept.alloc _ _ _)))
                        go_upto_region 14 with fail
                        go_cut [13] (fun s13 wz => ∃ B, s13 = .pointer (some ⟨B, 0, none⟩) ∧ PairAt wx wz B ⟨d1, p1, none⟩ ⟨d2, p2, none⟩)
                        case first =>
                          go_region
                          all_goals
                            go_wp2_with fail
                            go_meet
                            case rel => exact ⟨_, rfl, PairAt.new _ _ _⟩
                        case rest =>
                          obtain ⟨B, rfl, hB⟩ := hcut
                          rename World => wz
                          have HF3 := hide (HF.out.keep hB.kp)
                          have hin1 : d1 ∈ Bs2 ++ (Fo.cons k1 ix1 nm1 (some ⟨d1, p1, none⟩) c1 ks1 r).inn ++ winn st2 := by simp [Fo.inn, blk_pos hp]
                          have hin2 : d2 ∈ (Fo.cons k2 ix2 nm2 (some ⟨d2, p2, none⟩) c2 ks2 r').inn ++ winn' st2 := by simp [Fo.inn, blk_pos hp2]
                          have L1 := HF3.out.sc.live HOK.out hin1
                          have L2 := HF3.out.sc.live' HOK.out hin2
                          have hdn : d1 ≠ d2 := by
                            have h1 := (HF3.out.sc.lv d1 hin1).2.2
                            have h2 := (HF3.out.sc.rv d2 hin2).2.2
                            omega
                          have hnb1 : d1 ∉ Bs2 := fun h => by
                            have h1 := HF3.out.sc.nd
                            rw [List.append_assoc] at h1
                            exact (List.nodup_append.1 h1).2.2 d1 h d1 (by simp [Fo.inn, blk_pos hp]) rfl
                          have hBl : ∀ c ∈ Bs2, LiveB wz c := fun c hc => HF3.out.sc.live HOK.out (by simp [hc])
                          have hsa := ptr_neq (w := wz) (a := ⟨d1, p1, none⟩) (b := ⟨d2, p2, none⟩) hdn L1 L2
                          have hlk := HF3.out.sc.lm.look (a := ⟨d1, p1, none⟩) (b := ⟨d2, p2, none⟩) hnb1 L1 hBl
                          obtain ⟨w4, hpt, hm4, hg4⟩ := HF3.out.sc.lm.put (a := ⟨d1, p1, none⟩) (b := ⟨d2, p2, none⟩) hnb1 L1 hBl (.int .i64 ks1.len)
                          rw [HEM.out] at hpt hlk
                          have hc0 := hB.c0
                          have hc1 := hB.c1
                          have HM4 := hide hm4
                          have HG4 := hide hg4
                          clear hm4 hg4 L1 L2 hin1 hin2 hnb1 hBl hB HF u3 v3
                          have HK4 : Hid (Kept (fun c => c ≠ x.M ∧ c ≠ x.p ∧ c ≠ x.p') x.W3 w4) := HF3.out.sc.kp.trans ((Kept.grown (S := fun c => c ≠ x.M) HG4.out (fun k hk h => h (Option.some.inj hk).symm)).mono (fun _ _ h => h.1))
                          have HL4 : Hid (VR 0 w4 (.slice la n2 lc2) n2 (st2.map Ent.lv)) := by
                            have h1 := HF3.out.sc.l
                            rw [← hn2.out] at h1
                            exact h1.kept (S := fun c => c ≠ x.M) (Kept.grown HG4.out (fun k hk h => h (Option.some.inj hk).symm)) (fun c hc e => by
                              have h2 := HOK.out.m
                              rcases HF3.out.sc.lo c hc with h | h <;> omega)
                          have HR4 : Hid (VR 0 w4 (.slice ra n2 rc2) n2 (st2.map Ent.rv)) := by
                            have h1 := HF3.out.sc.r
                            rw [← hn2.out] at h1
                            exact h1.kept (S := fun c => c ≠ x.M) (Kept.grown HG4.out (fun k hk h => h (Option.some.inj hk).symm)) (fun c hc e => by
                              have h2 := HOK.out.m
                              rcases HF3.out.sc.ro c hc with h | h <;> omega)
                          have HVL : Hid (∀ V, Kept (fun _ => True) w4 V → V.ownsRow 0 23 1 (.slice la n2 lc2) n2 (st2.map Ent.lv)) := fun V k => (HL4.out.kept k (fun _ _ => trivial)).1
                          have HVR : Hid (∀ V, Kept (fun _ => True) w4 V → V.ownsRow 0 23 1 (.slice ra n2 rc2) n2 (st2.map Ent.rv)) := fun V k => (HR4.out.kept k (fun _ _ => trivial)).1
                          have HLN : Hid (n2 + 1 ≤ maxLen ∧ (n2 + 1) * 24 ≤ 140737488355328) := by
                            have h1 := HF3.out.le
                            have h2 := HF3.out.sz
                            have h3 := HWB.out
                            rw [← hn2.out] at h1
                            unfold Hid maxLen
                            omega
                          have HGL : Hid (∀ V V', Kept (fun _ => True) w4 V → V.grownBy V' (.slice la n2 lc2 : Value).ownBlock → Kept (fun c => c ≠ x.M ∧ c ≠ x.p ∧ c ≠ x.p') x.W3 V' ∧ (∀ V2, Kept (fun _ => True) V' V2 → V2.ownsRow 0 23 1 (.slice ra n2 rc2) n2 (st2.map Ent.rv)) ∧ ∀ c o, w4.heap.size ≤ c → V.heap[c]? = some o → V'.heap[c]? = some o) := fun V V' k hg => by
                            have kg : Kept (fun c => (.slice la n2 lc2 : Value).ownBlock ≠ some c) V V' := Kept.grown hg (fun k hk h => h hk)
                            refine ⟨grow_kept (fun c h => h) (fun c hc => (HF3.out.sc.lo c hc).imp_left (fun e h => h.2.1 e)) HK4.out k kg, fun V2 k2 => (((HR4.out.kept k (fun _ _ => trivial)).kept kg (fun c hc h => HF3.out.sc.ne c h hc)).kept k2 (fun _ _ => trivial)).1, fun c o h1 h2 => ?_⟩
                            rw [kg.block c (Array.getElem?_eq_some_iff.1 h2).1 (fun h => by have := (HL4.out.lt c h).2; omega)]
                            exact h2
                          have HGR : Hid (∀ V V', Kept (fun _ => True) w4 V → V.grownBy V' (.slice ra n2 rc2 : Value).ownBlock → Kept (fun c => c ≠ x.M ∧ c ≠ x.p ∧ c ≠ x.p') x.W3 V' ∧ (∀ V2, Kept (fun _ => True) V' V2 → V2.ownsRow 0 23 1 (.slice la n2 lc2) n2 (st2.map Ent.lv)) ∧ ∀ c o, w4.heap.size ≤ c → V.heap[c]? = some o → V'.heap[c]? = some o) := fun V V' k hg => by
                            have kg : Kept (fun c => (.slice ra n2 rc2 : Value).ownBlock ≠ some c) V V' := Kept.grown hg (fun k hk h => h hk)
                            refine ⟨grow_kept (fun c h => h) (fun c hc => (HF3.out.sc.ro c hc).imp_left (fun e h => h.2.2 e)) HK4.out k kg, fun V2 k2 => (((HL4.out.kept k (fun _ _ => trivial)).kept kg (fun c hc h => HF3.out.sc.ne c hc h)).kept k2 (fun _ _ => trivial)).1, fun c o h1 h2 => ?_⟩
                            rw [kg.block c (Array.getElem?_eq_some_iff.1 h2).1 (fun h => by have := (HR4.out.lt c h).2; omega)]
                            exact h2
                          have HPU : Hid (∀ (g q7 g' q8 : Nat) (V4 : World), VR 0 V4 (.slice (some ⟨g, 0, none⟩) (n2 + 1) q7) (n2 + 1) (st2.map Ent.lv ++ [.slice (some ⟨d1, p1, none⟩) ks1.len c1]) → VR 0 V4 (.slice (some ⟨g', 0, none⟩) (n2 + 1) q8) (n2 + 1) (st2.map Ent.rv ++ [.slice (some ⟨d2, p2, none⟩) ks2.len c2]) → (g = x.p ∨ x.W3.heap.size ≤ g) → (g' = x.p' ∨ x.W3.heap.size ≤ g') → g ≠ g' → LM V4 x.M (d1 :: Bs2) → Kept (fun c => c ≠ x.M ∧ c ≠ x.p ∧ c ≠ x.p') x.W3 V4 →
                              ScN x q W (some ⟨b, o, none⟩) (some ⟨b', o', none⟩) F.len tot (i + 1) (st2 ++ [⟨some ⟨d1, p1, none⟩, c1, ks1, some ⟨d2, p2, none⟩, c2, ks2⟩]) (.slice (some ⟨g, 0, none⟩) (n2 + 1) q7) (.slice (some ⟨g', 0, none⟩) (n2 + 1) q8) (d1 :: Bs2) r r' V4) := fun g q7 g' q8 V4 v1 v2 l1 l2 ne m k => by
                            refine HF3.out.push ⟨HEQ.out.1, HEQ.out.2.1, HEQ.out.2.2.1⟩ HEQ.out.2.2.2 hp (hn2.out ▸ v1) (hn2.out ▸ v2) (fun d hd => ?_) (fun d hd => ?_) (fun d hd h => ?_) m k (HWT.out V4 k)
                            · cases hd; exact l1
                            · cases hd; exact l2
                            · cases hd; cases h; exact ne rfl
                          have HFL : Hid (∀ V1 V2 V3 V4 g q7 g' q8, Kept (fun _ => True) w4 V1 → V2.ownsRow 0 23 1 (.slice (some ⟨g, 0, none⟩) (n2 + 1) q7) (n2 + 1) (st2.map Ent.lv ++ [.slice (some ⟨d1, p1, none⟩) ks1.len c1]) → V1.grownBy V2 (.slice la n2 lc2 : Value).ownBlock → ((.slice la n2 lc2 : Value).ownBlock = some g ∨ g = V1.heap.size) → Kept (fun _ => True) V2 V3 → V4.ownsRow 0 23 1 (.slice (some ⟨g', 0, none⟩) (n2 + 1) q8) (n2 + 1) (st2.map Ent.rv ++ [.slice (some ⟨d2, p2, none⟩) ks2.len c2]) → V3.grownBy V4 (.slice ra n2 rc2 : Value).ownBlock → ((.slice ra n2 rc2 : Value).ownBlock = some g' ∨ g' = V3.heap.size) →
                              ScN x q W (some ⟨b, o, none⟩) (some ⟨b', o', none⟩) F.len tot (i + 1) (st2 ++ [⟨some ⟨d1, p1, none⟩, c1, ks1, some ⟨d2, p2, none⟩, c2, ks2⟩]) (.slice (some ⟨g, 0, none⟩) (n2 + 1) q7) (.slice (some ⟨g', 0, none⟩) (n2 + 1) q8) (d1 :: Bs2) r r' V4) := fun V1 V2 V3 V4 g q7 g' q8 k1 o2 G2 a2 k3 o4 G4 a4 => by
                            obtain ⟨t1, t2, t3, t4, t5, t6, t7⟩ := app2 (S := (fun c => c ≠ x.M ∧ c ≠ x.p ∧ c ≠ x.p')) (M := x.M) (pl := x.p) (pr := x.p') (fun c h => h) HOK.out.m HL4.out HR4.out HF3.out.sc.lo HF3.out.sc.ro HF3.out.sc.ne HM4.out HK4.out k1 o2 G2 a2 k3 o4 G4 a4
                            exact HPU.out g q7 g' q8 V4 t1 t2 t3 t4 t5 t6 t7
                          have HFR : Hid (∀ V1 V2 V3 V4 g q7 g' q8, Kept (fun _ => True) w4 V1 → V2.ownsRow 0 23 1 (.slice (some ⟨g', 0, none⟩) (n2 + 1) q8) (n2 + 1) (st2.map Ent.rv ++ [.slice (some ⟨d2, p2, none⟩) ks2.len c2]) → V1.grownBy V2 (.slice ra n2 rc2 : Value).ownBlock → ((.slice ra n2 rc2 : Value).ownBlock = some g' ∨ g' = V1.heap.size) → Kept (fun _ => True) V2 V3 → V4.ownsRow 0 23 1 (.slice (some ⟨g, 0, none⟩) (n2 + 1) q7) (n2 + 1) (st2.map Ent.lv ++ [.slice (some ⟨d1, p1, none⟩) ks1.len c1]) → V3.grownBy V4 (.slice la n2 lc2 : Value).ownBlock → ((.slice la n2 lc2 : Value).ownBlock = some g ∨ g = V3.heap.size) →
                              ScN x q W (some ⟨b, o, none⟩) (some ⟨b', o', none⟩) F.len tot (i + 1) (st2 ++ [⟨some ⟨d1, p1, none⟩, c1, ks1, some ⟨d2, p2, none⟩, c2, ks2⟩]) (.slice (some ⟨g, 0, none⟩) (n2 + 1) q7) (.slice (some ⟨g', 0, none⟩) (n2 + 1) q8) (d1 :: Bs2) r r' V4) := fun V1 V2 V3 V4 g q7 g' q8 k1 o2 G2 a2 k3 o4 G4 a4 => by
                            obtain ⟨t1, t2, t3, t4, t5, t6, t7⟩ := app2 (S := (fun c => c ≠ x.M ∧ c ≠ x.p ∧ c ≠ x.p')) (M := x.M) (pl := x.p') (pr := x.p) (fun c h => ⟨h.1, h.2.2, h.2.1⟩) ⟨HOK.out.m.1, HOK.out.m.2.2, HOK.out.m.2.1⟩ HR4.out HL4.out HF3.out.sc.ro HF3.out.sc.lo (fun c h h2 => HF3.out.sc.ne c h2 h) HM4.out HK4.out k1 o2 G2 a2 k3 o4 G4 a4
                            exact HPU.out g q7 g' q8 V4 t2 t1 t4 t3 (fun h => t5 h.symm) t6 t7
                          have HN3 : Hid (n2 + 1 = (st2 ++ [(⟨some ⟨d1, p1, none⟩, c1, ks1, some ⟨d2, p2, none⟩, c2, ks2⟩ : Ent)]).length) := by unfold Hid; rw [List.length_append, ← hn2.out]; rfl
                          obtain ⟨-, -, -, u4x, -, -, -, v4x⟩ := HSQ.out w4 HK4.out
                          obtain ⟨-, -, -, -, -, -, -, v4y⟩ := HSQ.out (w4.alloc (.cells #[.slice (some ⟨d1, p1, none⟩) ks1.len c1] 23)) (HK4.out.trans (Kept.alloc _ _ _))
                          obtain ⟨-, -, -, u4y, -, -, -, -⟩ := HSQ.out (w4.alloc (.cells #[.slice (some ⟨d2, p2, none⟩) ks2.len c2] 23)) (HK4.out.trans (Kept.alloc _ _ _))
                          clear u2 v2
                          go_upto_region 17 with fail
                          go_region_law (first
                            | (refine U.ur_draw (by rfl) _ _ 73 23 (by rfl) Try.info23 Try.underlying73 (by rfl) (by decide) 0 _ (.slice ra n2 rc2) n2 _ [.slice (some ⟨d2, p2, none⟩) ks2.len c2] _ 1 (by rfl) (HV7.out _ (by repeat (first | exact Kept.refl _ _ | refine Kept.trans ?_ (Kept.alloc _ _ _) | refine Kept.trans ?_ (Kept.drew _ _)))) (by rfl) (by first | exact al_new _ _ (by simp) | exact al_old (al_new _ _ (by simp)) | exact HB7.out _ _ (by simp) (by first | exact al_new _ _ (by simp) | exact al_old (al_new _ _ (by simp)))) (Nat.zero_le _) rfl (by simp [Value.oneCell']) HLN.out.1 HLN.out.2 ?_; intro g8 q8 w8 hR8 hG8 hat8)
                            | (refine U.ur_draw (by rfl) _ _ 73 23 (by rfl) Try.info23 Try.underlying73 (by rfl) (by decide) 0 _ (.slice la n2 lc2) n2 _ [.slice (some ⟨d1, p1, none⟩) ks1.len c1] _ 1 (by rfl) (HV8.out _ (by repeat (first | exact Kept.refl _ _ | refine Kept.trans ?_ (Kept.alloc _ _ _) | refine Kept.trans ?_ (Kept.drew _ _)))) (by rfl) (by first | exact al_new _ _ (by simp) | exact al_old (al_new _ _ (by simp)) | exact HB8.out _ _ (by simp) (by first | exact al_new _ _ (by simp) | exact al_old (al_new _ _ (by simp)))) (Nat.zero_le _) rfl (by simp [Value.oneCell']) HLN.out.1 HLN.out.2 ?_; intro g7 q7 w7 hR7 hG7 hat7)
                            | (refine U.ur_draw (by rfl) _ _ 73 23 (by rfl) Try.info23 Try.underlying73 (by rfl) (by decide) 0 _ (.slice la n2 lc2) n2 _ [.slice (some ⟨d1, p1, none⟩) ks1.len c1] _ 1 (by rfl) (HVL.out _ (by repeat (first | exact Kept.refl _ _ | refine Kept.trans ?_ (Kept.alloc _ _ _) | refine Kept.trans ?_ (Kept.drew _ _)))) (by rfl) (by (first | exact al_new _ _ (by simp) | exact al_old (al_new _ _ (by simp)))) (Nat.zero_le _) rfl (by simp [Value.oneCell']) HLN.out.1 HLN.out.2 ?_; intro g7 q7 w7 hR7 hG7 hat7; have HB7 := hide (fun c o => (HGL.out _ _ (by repeat (first | exact Kept.refl _ _ | refine Kept.trans ?_ (Kept.alloc _ _ _) | refine Kept.trans ?_ (Kept.drew _ _))) hG7).2.2 c o); have HV7 := hide (HGL.out _ _ (by repeat (first | exact Kept.refl _ _ | refine Kept.trans ?_ (Kept.alloc _ _ _) | refine Kept.trans ?_ (Kept.drew _ _))) hG7).2.1; obtain ⟨-, -, -, -, -, -, -, v7⟩ := HSQ.out w7 (HGL.out _ _ (by repeat (first | exact Kept.refl _ _ | refine Kept.trans ?_ (Kept.alloc _ _ _) | refine Kept.trans ?_ (Kept.drew _ _))) hG7).1)
                            | (refine U.ur_draw (by rfl) _ _ 73 23 (by rfl) Try.info23 Try.underlying73 (by rfl) (by decide) 0 _ (.slice ra n2 rc2) n2 _ [.slice (some ⟨d2, p2, none⟩) ks2.len c2] _ 1 (by rfl) (HVR.out _ (by repeat (first | exact Kept.refl _ _ | refine Kept.trans ?_ (Kept.alloc _ _ _) | refine Kept.trans ?_ (Kept.drew _ _)))) (by rfl) (by (first | exact al_new _ _ (by simp) | exact al_old (al_new _ _ (by simp)))) (Nat.zero_le _) rfl (by simp [Value.oneCell']) HLN.out.1 HLN.out.2 ?_; intro g8 q8 w8 hR8 hG8 hat8; have HB8 := hide (fun c o => (HGR.out _ _ (by repeat (first | exact Kept.refl _ _ | refine Kept.trans ?_ (Kept.alloc _ _ _) | refine Kept.trans ?_ (Kept.drew _ _))) hG8).2.2 c o); have HV8 := hide (HGR.out _ _ (by repeat (first | exact Kept.refl _ _ | refine Kept.trans ?_ (Kept.alloc _ _ _) | refine Kept.trans ?_ (Kept.drew _ _))) hG8).2.1; obtain ⟨-, -, -, u8x, -, -, -, -⟩ := HSQ.out w8 (HGR.out _ _ (by repeat (first | exact Kept.refl _ _ | refine Kept.trans ?_ (Kept.alloc _ _ _) | refine Kept.trans ?_ (Kept.drew _ _))) hG8).1))
                          all_goals
                            go_wp2_with fail
                            go_roundw
                            case rel =>
                              first
                                | exact ⟨i + 1, _, _, _, _, _, n2 + 1, _, r, r', rfl, rfl, by go_num, by omega, HN3, HFL.out _ _ _ _ _ _ _ _ (by repeat (first | exact Kept.refl _ _ | refine Kept.trans ?_ (Kept.alloc _ _ _) | refine Kept.trans ?_ (Kept.drew _ _))) hR7 hG7 hat7 (by repeat (first | exact Kept.refl _ _ | refine Kept.trans ?_ (Kept.alloc _ _ _) | refine Kept.trans ?_ (Kept.drew _ _))) hR8 hG8 hat8⟩
                                | exact ⟨i + 1, _, _, _, _, _, n2 + 1, _, r, r', rfl, rfl, by go_num, by omega, HN3, HFR.out _ _ _ _ _ _ _ _ (by repeat (first | exact Kept.refl _ _ | refine Kept.trans ?_ (Kept.alloc _ _ _) | refine Kept.trans ?_ (Kept.drew _ _))) hR8 hG8 hat8 (by repeat (first | exact Kept.refl _ _ | refine Kept.trans ?_ (Kept.alloc _ _ _) | refine Kept.trans ?_ (Kept.drew _ _))) hR7 hG7 hat7⟩
                            case measure => simp [intOf]; omega
                      · obtain rfl : ks1 = .nil := by
                          cases ks1 with
                          | nil => rfl
                          | cons _ _ _ _ _ _ _ => simp [Fo.len] at hp
                        have hk2 : ks2 = .nil := by
                          have h1 := HEQ.out.2.2.2
                          cases ks2 with
                          | nil => rfl
                          | cons _ _ _ _ _ _ _ => simp [Fo.len] at h1
                        subst hk2
                        have HF2 := hide (HF.out.skip ⟨HEQ.out.1, HEQ.out.2.1, HEQ.out.2.2.1⟩)
                        simp only [Fo.len] at u2 v2
                        clear HF HSQ HK3 HQK HEQ HS1 HS2 hp
                        go_wp2_with fail
                        go_roundw
                        case rel => exact ⟨i + 1, st2, la, ra, lc2, rc2, n2, Bs2, r, r', rfl, rfl, by go_num, by omega, hn2, HF2⟩
                        case measure => simp [intOf]; omega

end Go.Proofs.Ytanjgmmkodlffaa
