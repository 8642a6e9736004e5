import Derived.Test.YtcnokpaicnjkfaaCa
import Derived.Test.YtcnokpaicnjkfaaKb
namespace Go.Proofs.Ytcnokpaicnjkfaa
open Go.RowKit Go.Joins

theorem sz_cons (h : Hd) (ks al r : Tm) (d : Nat) (L : Int) : (Tm.nd h ks al r).sz d L = ((Tm.nd h ks al .nil).sz d L).bind fun L' => r.sz d L' := by
  simp only [Tm.sz]
  by_cases g : L - 1 - h.ns.length - al.an < 0 ∨ 1000 < d
  · rw [if_pos g, if_pos g, Option.bind_none]
  · rw [if_neg g, if_neg g]
    cases ks.sz (d + 1) (L - 1 - h.ns.length - al.an) with
    | none => rfl
    | some L2 =>
      simp only [Option.bind_some]
      cases al.sz (d + 1) L2 with
      | none => rfl
      | some L3 => rfl

theorem sz_le : ∀ (t : Tm) (d : Nat) (L L' : Int), t.sz d L = some L' → 0 ≤ L → 0 ≤ L' ∧ L' ≤ L
  | .nil, _, L, L', h, h0 => by
    simp only [Tm.sz, Option.some.injEq] at h
    omega
  | .nd hd ks al r, d, L, L', h, h0 => by
    simp only [Tm.sz] at h
    by_cases g : L - 1 - hd.ns.length - al.an < 0 ∨ 1000 < d
    · rw [if_pos g] at h; cases h
    · rw [if_neg g] at h
      cases h1 : ks.sz (d + 1) (L - 1 - hd.ns.length - al.an) with
      | none => rw [h1] at h; cases h
      | some L2 =>
        rw [h1, Option.bind_some] at h
        have e1 := sz_le ks _ _ _ h1 (by omega)
        cases h2 : al.sz (d + 1) L2 with
        | none => rw [h2] at h; cases h
        | some L3 =>
          rw [h2, Option.bind_some] at h
          have e2 := sz_le al _ _ _ h2 (by omega)
          have e3 := sz_le r _ _ _ h (by omega)
          omega

/-- A term's seven cells. -/
structure C7 (x : Fo) (h : Hd) (ks al : Tm) : Prop where
  rd : ∀ q, rdK (x.app q) = .nd h ks al (rdK q)

/-- A term taken apart. -/
theorem core_open {x : Fo} (hx : Fit E x (E 3)) : ∃ (k : Int) (nm : ByteArray) (mn : Bool) (la : Option Addr) (ln lc : Nat) (lk : Fo) (na : Option Addr) (nn nc : Nat) (nk : Fo) (ka : Option Addr) (kn kc : Nat) (kk : Fo) (aa : Option Addr) (an ac : Nat) (ak : Fo),
    x = .v (.int .i64 k) (.v (.string nm) (.v (.bool mn) (.s la ln lc lk (.s na nn nc nk (.s ka kn kc kk (.s aa an ac ak .nil)))))) ∧ (Lit.int .i64 k).wf = true ∧ nm.size ≤ maxLen ∧ Fit E lk (rep (E 0) ln) ∧ Fit E nk (rep (E 1) nn) ∧ Fit E kk (rep (E 3) kn) ∧ Fit E ak (rep (E 2) an) := by
  replace hx : Fit E x [.i, .t, .b, .s 0, .s 1, .s 3, .s 2] := hx
  obtain ⟨k, F0, rfl, hk, hx⟩ := fit_i hx
  obtain ⟨nm, F1, rfl, hn, hx⟩ := fit_t hx
  obtain ⟨mn, F2, rfl, hx⟩ := fit_b hx
  obtain ⟨la, ln, lc, lk, F3, rfl, h3, hx⟩ := fit_s hx
  obtain ⟨na, nn, nc, nk, F4, rfl, h4, hx⟩ := fit_s hx
  obtain ⟨ka, kn, kc, kk, F5, rfl, h5, hx⟩ := fit_s hx
  obtain ⟨aa, an, ac, ak, F6, rfl, h6, hx⟩ := fit_s hx
  obtain rfl := fit_nil hx
  exact ⟨k, nm, mn, la, ln, lc, lk, na, nn, nc, nk, ka, kn, kc, kk, aa, an, ac, ak, rfl, hk, hn, h3, h4, h5, h6⟩

/-- An alternative taken apart. -/
theorem alt_open {x : Fo} (hx : Fit E x (E 2)) : ∃ (con : ByteArray) (ca : Option Addr) (cn cc : Nat) (ck y : Fo), x = .v (.string con) (.s ca cn cc ck y) ∧ con.size ≤ maxLen ∧ Fit E ck (rep (E 1) cn) ∧ Fit E y (E 3) := by
  replace hx : Fit E x (.t :: .s 1 :: E 3) := hx
  obtain ⟨con, F0, rfl, hk, hx⟩ := fit_t hx
  obtain ⟨ca, cn, cc, ck, F1, rfl, h1, hx⟩ := fit_s hx
  exact ⟨con, ca, cn, cc, ck, F1, rfl, hk, h1, hx⟩

theorem szK_app {x : Fo} (hx : Fit E x (E 3)) (q : Fo) (d : Nat) (L : Int) : (rdK (x.app q)).sz d L = ((rdK x).sz d L).bind fun L' => (rdK q).sz d L' := by
  obtain ⟨k, nm, mn, la, ln, lc, lk, na, nn, nc, nk, ka, kn, kc, kk, aa, an, ac, ak, rfl, -⟩ := core_open hx
  simp only [Fo.app]
  rw [rdK_nd, rdK_nd, rdK_nil]
  exact sz_cons _ _ _ _ _ _

theorem szA_app {x : Fo} (hx : Fit E x (E 2)) (q : Fo) (d : Nat) (L : Int) : ∃ (con : ByteArray) (ca : Option Addr) (cn cc : Nat) (ck y : Fo), x = .v (.string con) (.s ca cn cc ck y) ∧ Fit E ck (rep (E 1) cn) ∧ Fit E y (E 3) ∧ (rdA (x.app q)).sz d L = ((rdK y).sz d L).bind fun L' => (rdA q).sz d L' := by
  obtain ⟨con, ca, cn, cc, ck, y, rfl, -, h1, hy⟩ := alt_open hx
  refine ⟨con, ca, cn, cc, ck, y, rfl, h1, hy, ?_⟩
  obtain ⟨k, nm, mn, la, ln, lc, lk, na, nn, nc, nk, ka, kn, kc, kk, aa, an, ac, ak, rfl, -⟩ := core_open hy
  simp only [Fo.app]
  rw [rdA_nd, rdK_nd, rdK_nil]
  rw [sz_cons]
  rfl

theorem rdS_len {n : Nat} {F : Fo} (h : Fit E F (rep (E 1) n)) : (rdS F).length = n := (rdS_fit n F h).2

/-- A number in a box. -/
structure NumB (W : World) (b : Nat) (L : Int) : Prop where
  cell : W.cell? ⟨b, 0, none⟩ = some (.int .i64 L)
  live : W.frozen? ⟨b, 0, none⟩ = false
  lt : b < W.heap.size

theorem NumB.set {W : World} {b : Nat} {L : Int} (h : NumB W b L) (M : Int) : NumB (W.setCell ⟨b, 0, none⟩ (.int .i64 M)) b M :=
  ⟨World.cell?_setCell_same' _ _ _ (by rw [h.cell]; rfl), by rw [World.frozen?_setCell]; exact h.live, by simpa [World.setCell] using h.lt⟩
theorem NumB.below {A B : World} {b : Nat} {L : Int} (h : NumB A b L) (k : Below A.heap.size A B) : NumB B b L :=
  ⟨(k.cell (p := ⟨b, 0, none⟩) h.lt).trans h.cell, (k.frozen (p := ⟨b, 0, none⟩) h.lt).trans h.live, Nat.lt_of_lt_of_le h.lt k.size⟩
theorem NumB.drew {A : World} {b : Nat} {L : Int} (h : NumB A b L) : NumB A.drew b L := ⟨h.cell, h.live, h.lt⟩

/-- What the model's count answers. -/
def SizP (R : Option Int) (lb : Nat) (W : World) (e : Ending) (W' : World) : Prop :=
  ∃ q : Bool, e = .returned (.bool q) ∧ (q = true → ∃ L', R = some L' ∧ NumB W' lb L') ∧ (q = false → R = none) ∧ Kept (fun c => c ≠ lb) W W'

/-- The count of the model, its contract for terms of at most m cells. -/
def SizC (m : Nat) : Prop := ∀ (F : Fo) (nb : Nat) (W : World) (d : Nat) (L : Int) (lb : Nat), F.size ≤ m → Fit E F (E 3) → nb ≤ lb → F.wt ≤ 1048576 → F.Subs W (fun c => c < nb) → NumB W lb L → 0 ≤ L → L ≤ 20000 → d ≤ 1001 →
  Calls Try.prog 40 #[.agg F.vals.toArray, .int .i64 (d : Int), .pointer (some ⟨lb, 0, none⟩)] W (SizP ((rdK F).sz d L) lb W)

end Go.Proofs.Ytcnokpaicnjkfaa

namespace Go.Proofs.Ytcnokpaicnjkfaa
open Go.RowKit Go.Joins

theorem anA_app {x : Fo} (hx : Fit E x (E 2)) (q : Fo) : ∃ (con : ByteArray) (ca : Option Addr) (cn cc : Nat) (ck y : Fo), x = .v (.string con) (.s ca cn cc ck y) ∧ Fit E ck (rep (E 1) cn) ∧ Fit E y (E 3) ∧ (rdA (x.app q)).an = cn + (rdA q).an ∧ cn ≤ x.wt := by
  obtain ⟨con, ca, cn, cc, ck, y, rfl, -, h1, hy⟩ := alt_open hx
  refine ⟨con, ca, cn, cc, ck, y, rfl, h1, hy, ?_, by simp only [Fo.wt]; omega⟩
  obtain ⟨k, nm, mn, la, ln, lc, lk, na, nn, nc, nk, ka, kn, kc, kk, aa, an, ac, ak, rfl, -⟩ := core_open hy
  simp only [Fo.app]
  rw [rdA_nd]
  simp only [Tm.an, rdS_len h1]

theorem an_le : ∀ (n : Nat) (F : Fo), Fit E F (rep (E 2) n) → (rdA F).an ≤ F.wt
  | 0, F, h => by rw [fit_nil h, rdA_nil]; exact Nat.zero_le _
  | n + 1, F, h => by
    obtain ⟨x, q, rfl, hx, hq, -⟩ := Fit.split (fs := E 2) (gs := rep (E 2) n) h
    obtain ⟨con, ca, cn, cc, ck, y, -, -, -, e, hw⟩ := anA_app hx q
    have := an_le n q hq
    rw [e, Fo.app_wt]
    omega

set_option maxHeartbeats 4000000 in
set_option maxRecDepth 100000 in
theorem siz_step (m : Nat) (ih : SizC m) : SizC (m + 1) := by
  intro F nb W d L lb hm hf hnb hwt hs hL h0 h1 hd
  obtain ⟨k, nm, mn, la, ln, lc, lk, na, nn, nc, nk, ka, kn, kc, kk, aa, an, ac, ak, rfl, -, -, h3, h4, h5, h6⟩ := core_open hf
  obtain ⟨hs3, hs4, hs5, hs6, -⟩ := hs
  simp only [Fo.size] at hm
  simp only [Fo.wt, textSize] at hwt
  simp only [Fo.vals]
  rw [rdK_nd, rdK_nil]
  obtain ⟨R, hR⟩ : ∃ R, (Tm.nd ⟨⟨#[]⟩, [], k, nm, mn, rdU lk, rdS nk⟩ (rdK kk) (rdA ak) .nil).sz d L = R := ⟨_, rfl⟩
  have hR2 := hR
  simp only [Tm.sz, rdS_len h4] at hR2
  rw [hR]
  have hal := an_le an ak h6
  obtain ⟨V0, hV0⟩ : ∃ V, W.alloc (.cells #[.int .i64 k, .string nm, .bool mn, .slice la ln lc, .slice na nn nc, .slice ka kn kc, .slice aa an ac] 36) = V := ⟨_, rfl⟩
  have b0 : Below W.heap.size W V0 := by rw [← hV0]; exact below_alloc1 _ _
  have q0 : Bx V0 W.heap.size [.int .i64 k, .string nm, .bool mn, .slice la ln lc, .slice na nn nc, .slice ka kn kc, .slice aa an ac] := by rw [← hV0]; exact Bx.new _ _ _
  have l0 := hL.below b0
  have hlt := hL.lt
  have HLT := hide hlt
  have c4 : V0.cell? ⟨W.heap.size, 4, none⟩ = some (.slice na nn nc) := q0.cel 4 _ rfl
  have cl := l0.cell
  have cf := l0.live
  have HB0 := hide b0
  have HQ0 := hide q0
  have HL0 := hide l0
  have HR := hide hR
  have HR2 := hide hR2
  have HV0 := hide hV0
  have HV00 := hide hV0
  have HS5 := hide hs5
  have HS6 := hide hs6
  have hnx : nn ≤ 9223372036854775807 := by have h2 := hs4.1; have h3 := hs4.2.1; simp only [maxLen] at h3; omega
  clear hV0 b0 q0 l0 hR hR2 hs3 hs4 hs5 hs6 hL hlt h3
  go_enter Try.func40, Try.ntmps40
  go_upto_region 1 with fail
  rw [HV0.out]
  clear HV0
  have HP0 : Hid (nb ≤ W.heap.size ∧ W.heap.size ≠ lb ∧ lb < W.heap.size ∧ V0.heap.size = W.heap.size + 1 ∧ nb ≤ lb) := by
    have hz : V0.heap.size = W.heap.size + 1 := by rw [← HV00.out]; simp
    have := HLT.out
    exact ⟨by omega, by omega, HLT.out, hz, hnb⟩
  obtain ⟨V1, hV1⟩ : ∃ V, (V0.setCell ⟨lb, 0, none⟩ (.int .i64 (L - 1 - (nn : Int)))).drew = V := ⟨_, rfl⟩
  have HK1 : Hid (Kept (fun c => c ≠ lb) V0 V1) := by unfold Hid; rw [← hV1]; exact (Kept.setCell _ _ _ _ (by simp)).trans (Kept.drew _ _)
  have HN1 : Hid (NumB V1 lb (L - 1 - (nn : Int))) := by unfold Hid; rw [← hV1]; exact (HL0.out.set _).drew
  have HV1 := hide hV1
  clear hV1
  go_region
  rw [HV1.out]
  clear HV1 cl cf c4
  have HKW : Hid (∀ V, Kept (fun c => c ≠ lb) V0 V → Kept (fun c => c ≠ lb) W V) := fun V k => (Kept.of_below HB0.out (fun c hc _ => hc)).trans k
  have HQL := hide (fun (V : World) (k : Kept (fun c => c ≠ lb) V0 V) => HQ0.out.kept k HP0.out.2.1)
  have HRA : Hid (∀ V, Kept (fun c => c ≠ lb) V0 V → Rd E (E 2) an nb aa 0 ak V) := fun V k => ((Rd.start h6 HS6.out).below HB0.out HP0.out.1).kept k (by have := HP0.out; omega) (fun c hc => by have := HP0.out; show c ≠ lb; omega)
  have HRK : Hid (∀ V, Kept (fun c => c ≠ lb) V0 V → Rd E (E 3) kn nb ka 0 kk V) := fun V k => ((Rd.start h5 HS5.out).below HB0.out HP0.out.1).kept k (by have := HP0.out; omega) (fun c hc => by have := HP0.out; show c ≠ lb; omega)
  have hax : an ≤ 9223372036854775807 := by have h2 := HS6.out.1; have h3 := HS6.out.2.1; simp only [maxLen] at h3; omega
  have hkx : kn ≤ 9223372036854775807 := by have h2 := HS5.out.1; have h3 := HS5.out.2.1; simp only [maxLen] at h3; omega
  obtain ⟨AN, hAN⟩ : ∃ x, (rdA ak).an = x := ⟨_, rfl⟩
  have HAN := hide hAN
  rw [hAN] at hal HR2
  have HM := hide hm
  clear HS5 HS6 hAN hm
  go_wp2_with fail
  go_loopw [7] (fun s7 wr => ∃ (i : Nat) (r : Fo) (cur : Int), s7 = .int .i64 i ∧ i ≤ an ∧ Hid (cur + AN = L - 1 - nn + (rdA r).an ∧ r.wt ≤ ak.wt) ∧ Hid (Rd E (E 2) an nb aa i r wr) ∧ Hid (Kept (fun c => c ≠ lb) V0 wr) ∧ Hid (NumB wr lb cur)) (fun s7 _ => an - (intOf s7).toNat)
  case atStart => exact ⟨0, ak, L - 1 - nn, rfl, Nat.zero_le _, ⟨by rw [HAN.out], Nat.le_refl _⟩, HRA.out V1 HK1.out, HK1, HN1⟩
  case round =>
    obtain ⟨i, r, cur, rfl, hin, hcu, hRd, hK, hN⟩ := hrel
    by_cases hi : i < an
    · obtain ⟨x, rr, b, o, rfl, hx, rfl, hb, hc, -, hR1⟩ := hRd.out.next hi (by decide)
      obtain ⟨con, ca, cn, cc, ck, y, rfl, -, -, han, hcw⟩ := anA_app hx rr
      have hii : (i : Int) < an := by omega
      have c6 : wr.cell? ⟨W.heap.size, 6, none⟩ = some (.slice (some ⟨b, o, none⟩) an ac) := (HQL.out wr hK.out).cel 6 _ rfl
      have cl := hN.out.cell
      have cf := hN.out.live
      have ce : wr.cell? ⟨b, o + i * 9 + 1, none⟩ = some (.slice ca cn cc) := hc 1 _ rfl
      obtain ⟨hce, hcl⟩ := hcu.out
      rw [Fo.app_wt] at hcl
      rw [han] at hce
      have hrl := an_le _ _ hR1.fit
      have hbnd : 0 ≤ cur + 3145728 - cn ∧ cur - cn ≤ 2000000 ∧ cn ≤ 1048576 := by omega
      clear hrl
      have HCE : Hid (cur - cn + AN = L - 1 - nn + (rdA rr).an ∧ rr.wt ≤ ak.wt) := ⟨by omega, by omega⟩
      have HR1 := hide hR1
      have HKn : Hid (Kept (fun c => c ≠ lb) V0 (wr.setCell ⟨lb, 0, none⟩ (.int .i64 (cur - (cn : Int)))).drew) := (hK.out.trans (Kept.setCell _ _ _ _ (by simp))).trans (Kept.drew _ _)
      have HNn : Hid (NumB (wr.setCell ⟨lb, 0, none⟩ (.int .i64 (cur - (cn : Int)))).drew lb (cur - (cn : Int))) := (hN.out.set _).drew
      have HRn : Hid (Rd E (E 2) an nb (some ⟨b, o, none⟩) (i + 1) rr (wr.setCell ⟨lb, 0, none⟩ (.int .i64 (cur - (cn : Int)))).drew) := HR1.out.kept ((Kept.setCell (fun c => c ≠ lb) _ _ _ (by simp)).trans (Kept.drew _ _)) (by have := HP0.out; have := hK.out.size; omega) (fun c hc => by have := HP0.out; show c ≠ lb; omega)
      clear hc hR1 hx han hce hcl hcu hRd hcw
      go_wp2_with fail
      go_region
      go_wp2_with fail
      go_roundw
      case rel => exact ⟨i + 1, rr, cur - cn, by go_num, by omega, HCE, HRn, HKn, HNn⟩
      case measure => simp [intOf]; omega
    · obtain ⟨rfl, rfl⟩ := hRd.out.done hi
      have hce := hcu.out.1
      rw [rdA_nil] at hce
      have hce2 : cur = L - 1 - nn - AN := by simp only [Tm.an] at hce; omega
      have hbnd : -2097152 ≤ cur ∧ cur ≤ 20000 := by omega
      have cl := hN.out.cell
      have c6 : wr.cell? ⟨W.heap.size, 6, none⟩ = some (.slice aa i ac) := (HQL.out wr hK.out).cel 6 _ rfl
      rw [← hce2] at HR2
      clear hce hce2 hcu hRd HAN
      by_cases hg : cur < 0 ∨ 1000 < d
      · have HF : Hid (R = none) := by rw [if_pos hg] at HR2; exact HR2.out.symm
        clear HR2 HR
        by_cases hg1 : cur < 0
        · go_wp2_with fail
          go_ret
          exact ⟨false, rfl, fun h => absurd h (by decide), fun _ => HF.out, HKW.out wr hK.out⟩
        · have hg2 : (1000 : Int) < (d : Int) := by omega
          go_wp2_with fail
          go_ret
          exact ⟨false, rfl, fun h => absurd h (by decide), fun _ => HF.out, HKW.out wr hK.out⟩
      · rw [if_neg hg] at HR2
        have hg1 : ¬ cur < 0 := by omega
        have hg2 : ¬ (1000 : Int) < (d : Int) := by omega
        have hd1 : d + 1 ≤ 1001 := by omega
        clear hg
        go_wp2_with fail
        go_loopw [8] (fun s8 wr => ∃ (i : Nat) (r : Fo) (u : Int), s8 = .int .i64 i ∧ i ≤ kn ∧ Hid ((rdK r).sz (d + 1) u = (rdK kk).sz (d + 1) cur ∧ r.wt ≤ kk.wt ∧ r.size ≤ kk.size ∧ 0 ≤ u ∧ u ≤ 20000) ∧ Hid (Rd E (E 3) kn nb ka i r wr) ∧ Hid (Kept (fun c => c ≠ lb) V0 wr) ∧ Hid (NumB wr lb u)) (fun s8 _ => kn - (intOf s8).toNat)
        case atStart => exact ⟨0, kk, cur, rfl, Nat.zero_le _, ⟨rfl, Nat.le_refl _, Nat.le_refl _, by omega, by omega⟩, HRK.out _ hK.out, hK, hN⟩
        case round =>
          obtain ⟨j, r, u, rfl, hjn, hcu, hRd, hK2, hN2⟩ := hrel
          have c5 : wr.cell? ⟨W.heap.size, 5, none⟩ = some (.slice ka kn kc) := (HQL.out wr hK2.out).cel 5 _ rfl
          by_cases hj : j < kn
          · obtain ⟨x, rr, b, o, rfl, hx, rfl, hb, hc, hxs, hR1⟩ := hRd.out.next hj (by decide)
            obtain ⟨g1, g2, g3, g4, g5⟩ := hcu.out
            rw [szK_app hx] at g1
            rw [Fo.app_wt] at g2
            rw [Fo.app_size] at g3
            have hjj : (j : Int) < kn := by omega
            have HC := hide (ih x nb wr (d + 1) u lb (by have := HM.out; omega) hx hnb (by omega) hxs hN2.out g4 g5 hd1)
            obtain ⟨X, hX⟩ : ∃ X, (rdK x).sz (d + 1) u = X := ⟨_, rfl⟩
            rw [hX] at HC g1
            have HX := hide hX
            have HG1 := hide g1
            have HR1 := hide hR1
            have HG2 : Hid (rr.wt ≤ kk.wt ∧ rr.size ≤ kk.size) := ⟨by omega, by omega⟩
            have HG4 := hide g4
            have HG5 := hide g5
            obtain ⟨xk, xnm, xmn, xla, xln, xlc, xlk, xna, xnn, xnc, xnk, xka, xkn, xkc, xkk, xaa, xan, xac, xak, rfl, -⟩ := core_open hx
            simp only [Fo.vals] at HC hc
            have p0 : wr.cell? ⟨b, o + j * 7, none⟩ = some (.int .i64 xk) := hc 0 _ rfl
            have p1 : wr.cell? ⟨b, o + j * 7 + 1, none⟩ = some (.string xnm) := hc 1 _ rfl
            have p2 : wr.cell? ⟨b, o + j * 7 + 2, none⟩ = some (.bool xmn) := hc 2 _ rfl
            have p3 : wr.cell? ⟨b, o + j * 7 + 3, none⟩ = some (.slice xla xln xlc) := hc 3 _ rfl
            have p4 : wr.cell? ⟨b, o + j * 7 + 4, none⟩ = some (.slice xna xnn xnc) := hc 4 _ rfl
            have p5 : wr.cell? ⟨b, o + j * 7 + 5, none⟩ = some (.slice xka xkn xkc) := hc 5 _ rfl
            have p6 : wr.cell? ⟨b, o + j * 7 + 6, none⟩ = some (.slice xaa xan xac) := hc 6 _ rfl
            clear hc hxs hx hX g1 g2 g3 g4 g5 hcu hRd hR1
            go_wp2_with fail
            refine HC.out.mono ?_
            clear HC
            rintro e w1 ⟨q, rfl, hqt, hqf, k1⟩
            have HKn := hide (hK2.out.trans k1)
            cases q with
            | false =>
              have HF : Hid (R = none) := by
                have e1 := hqf rfl
                rw [e1, Option.bind_none] at HG1
                have e2 := HR2.out
                rw [← HG1.out, Option.bind_none] at e2
                exact e2.symm
              clear hqt hqf k1
              go_wp2_with fail
              go_ret
              exact ⟨false, rfl, fun h => absurd h (by decide), fun _ => HF.out, HKW.out w1 HKn.out⟩
            | true =>
              obtain ⟨L', e1, n1⟩ := hqt rfl
              have e2 := sz_le _ _ _ _ (HX.out.trans e1) HG4.out
              have HG1' := HG1.out
              rw [e1, Option.bind_some] at HG1'
              have HG6 : Hid ((rdK rr).sz (d + 1) L' = (rdK kk).sz (d + 1) cur ∧ rr.wt ≤ kk.wt ∧ rr.size ≤ kk.size ∧ 0 ≤ L' ∧ L' ≤ 20000) := ⟨HG1', HG2.out.1, HG2.out.2, e2.1, Int.le_trans e2.2 HG5.out⟩
              have HNn := hide n1
              have HRn := hide (HR1.out.kept k1 (by have := HP0.out; have := hK2.out.size; omega) (fun c hc => by have := HP0.out; show c ≠ lb; omega))
              clear hqt hqf k1 e1 e2 HG1' n1 HX HG1 HG4 HG5
              go_wp2_with fail
              go_roundw
              case rel => exact ⟨j + 1, rr, L', by go_num, by omega, HG6, HRn, HKn, HNn⟩
              case measure => simp [intOf]; omega
          · obtain ⟨rfl, rfl⟩ := hRd.out.done hj
            obtain ⟨g1, -, -, g4, g5⟩ := hcu.out
            rw [rdK_nil] at g1
            simp only [Tm.sz] at g1
            have e2 := HR2.out
            rw [← g1, Option.bind_some] at e2
            have HR3 := hide e2
            have HU := hide (And.intro g4 g5)
            have HRA2 := hide (HRA.out wr hK2.out)
            clear g1 g4 g5 hcu hRd e2 HR2 HRA
            go_wp2_with fail
            go_loopw [9] (fun s9 wr => ∃ (i1 : Nat) (r : Fo) (v : Int), s9 = .int .i64 i1 ∧ i1 ≤ i ∧ Hid ((rdA r).sz (d + 1) v = (rdA ak).sz (d + 1) u ∧ r.wt ≤ ak.wt ∧ r.size ≤ ak.size ∧ 0 ≤ v ∧ v ≤ 20000) ∧ Hid (Rd E (E 2) i nb aa i1 r wr) ∧ Hid (Kept (fun c => c ≠ lb) V0 wr) ∧ Hid (NumB wr lb v)) (fun s9 _ => i - (intOf s9).toNat)
            case atStart => exact ⟨0, ak, u, rfl, Nat.zero_le _, ⟨rfl, Nat.le_refl _, Nat.le_refl _, HU.out.1, HU.out.2⟩, HRA2, hK2, hN2⟩
            case round =>
              obtain ⟨i1, r, v, rfl, hjn1, hcu, hRd, hK3, hN3⟩ := hrel
              have c6 : wr.cell? ⟨W.heap.size, 6, none⟩ = some (.slice aa i ac) := (HQL.out wr hK3.out).cel 6 _ rfl
              by_cases hj1 : i1 < i
              · obtain ⟨x, rr, b, o, rfl, hx, rfl, hb, hc, hxs, hR1⟩ := hRd.out.next hj1 (by decide)
                obtain ⟨g1, g2, g3, g4, g5⟩ := hcu.out
                obtain ⟨con, ca, cn, cc, ck, y, rfl, -, hy, hap⟩ := szA_app hx rr (d + 1) v
                rw [hap] at g1
                rw [Fo.app_wt] at g2
                rw [Fo.app_size] at g3
                simp only [Fo.wt, Fo.size] at g2 g3
                have hjj : (i1 : Int) < i := by omega
                have HC := hide (ih y nb wr (d + 1) v lb (by have := HM.out; omega) hy hnb (by omega) hxs.2 hN3.out g4 g5 hd1)
                obtain ⟨X, hX⟩ : ∃ X, (rdK y).sz (d + 1) v = X := ⟨_, rfl⟩
                rw [hX] at HC g1
                have HX := hide hX
                have HG1 := hide g1
                have HR1 := hide hR1
                have HG2 : Hid (rr.wt ≤ ak.wt ∧ rr.size ≤ ak.size) := ⟨by omega, by omega⟩
                have HG4 := hide g4
                have HG5 := hide g5
                obtain ⟨xk, xnm, xmn, xla, xln, xlc, xlk, xna, xnn, xnc, xnk, xka, xkn, xkc, xkk, xaa, xan, xac, xak, rfl, -⟩ := core_open hy
                simp only [Fo.vals] at HC hc
                have p0 : wr.cell? ⟨b, o + i1 * 9 + 2, none⟩ = some (.int .i64 xk) := hc 2 _ rfl
                have p1 : wr.cell? ⟨b, o + i1 * 9 + 2 + 1, none⟩ = some (.string xnm) := hc 3 _ rfl
                have p2 : wr.cell? ⟨b, o + i1 * 9 + 2 + 2, none⟩ = some (.bool xmn) := hc 4 _ rfl
                have p3 : wr.cell? ⟨b, o + i1 * 9 + 2 + 3, none⟩ = some (.slice xla xln xlc) := hc 5 _ rfl
                have p4 : wr.cell? ⟨b, o + i1 * 9 + 2 + 4, none⟩ = some (.slice xna xnn xnc) := hc 6 _ rfl
                have p5 : wr.cell? ⟨b, o + i1 * 9 + 2 + 5, none⟩ = some (.slice xka xkn xkc) := hc 7 _ rfl
                have p6 : wr.cell? ⟨b, o + i1 * 9 + 2 + 6, none⟩ = some (.slice xaa xan xac) := hc 8 _ rfl
                clear hc hxs hx hX g1 g2 g3 g4 g5 hcu hRd hR1 hap hy
                go_wp2_with fail
                refine HC.out.mono ?_
                clear HC
                rintro e w1 ⟨q, rfl, hqt, hqf, k1⟩
                have HKn := hide (hK3.out.trans k1)
                cases q with
                | false =>
                  have HF : Hid (R = none) := by
                    have e1 := hqf rfl
                    rw [e1, Option.bind_none] at HG1
                    have e2 := HR3.out
                    rw [← HG1.out, Option.bind_none] at e2
                    exact e2.symm
                  clear hqt hqf k1
                  go_wp2_with fail
                  go_ret
                  exact ⟨false, rfl, fun h => absurd h (by decide), fun _ => HF.out, HKW.out w1 HKn.out⟩
                | true =>
                  obtain ⟨L', e1, n1⟩ := hqt rfl
                  have e2 := sz_le _ _ _ _ (HX.out.trans e1) HG4.out
                  have HG1' := HG1.out
                  rw [e1, Option.bind_some] at HG1'
                  have HG6 : Hid ((rdA rr).sz (d + 1) L' = (rdA ak).sz (d + 1) u ∧ rr.wt ≤ ak.wt ∧ rr.size ≤ ak.size ∧ 0 ≤ L' ∧ L' ≤ 20000) := ⟨HG1', HG2.out.1, HG2.out.2, e2.1, Int.le_trans e2.2 HG5.out⟩
                  have HNn := hide n1
                  have HRn := hide (HR1.out.kept k1 (by have := HP0.out; have := hK3.out.size; omega) (fun c hc => by have := HP0.out; show c ≠ lb; omega))
                  clear hqt hqf k1 e1 e2 HG1' n1 HX HG1 HG4 HG5
                  go_wp2_with fail
                  go_roundw
                  case rel => exact ⟨i1 + 1, rr, L', by go_num, by omega, HG6, HRn, HKn, HNn⟩
                  case measure => simp [intOf]; omega
              · obtain ⟨rfl, -⟩ := hRd.out.done hj1
                obtain ⟨g1, -, -, g4, g5⟩ := hcu.out
                rw [rdA_nil] at g1
                simp only [Tm.sz] at g1
                have HF : Hid (R = some v) := by
                  have e2 := HR3.out
                  rw [← g1, Option.bind_some] at e2
                  exact e2.symm
                clear g1 g4 g5 hcu hRd
                have hji : ¬ (i1 : Int) < i := by omega
                go_wp2_with fail
                go_ret
                exact ⟨true, rfl, fun _ => ⟨v, HF.out, hN3.out⟩, fun h => absurd h (by decide), HKW.out wr hK3.out⟩

theorem siz_all : ∀ m, SizC m
  | 0 => fun F _ _ _ _ _ hm hf => absurd (Fit.len hf) (by have := F.len_le; show ¬ F.len = 7; omega)
  | m + 1 => siz_step m (siz_all m)

end Go.Proofs.Ytcnokpaicnjkfaa

namespace Go.Proofs.Ytcnokpaicnjkfaa
open Go.RowKit Go.Joins

theorem rdU_fit : ∀ (n : Nat) (F : Fo), Fit E F (rep (E 0) n) → F.vals = (rdU F).map (Value.int .u32) ∧ (rdU F).length = n
  | 0, F, h => by
    have e := fit_nil h
    subst e
    exact ⟨rfl, rfl⟩
  | n + 1, F, h => by
    replace h : Fit E F ([.u] ++ rep (E 0) n) := h
    obtain ⟨x, r, rfl, -, h⟩ := fit_u h
    obtain ⟨h1, h2⟩ := rdU_fit n r h
    exact ⟨by simp only [Fo.vals, rdU, List.map_cons, h1], by simp only [rdU, List.length_cons, h2]⟩

/-- A row of limbs in memory. -/
structure LR (V : World) (S : Nat → Prop) (a : Option Addr) (c : Nat) (L : List Int) : Prop where
  le : L.length ≤ c
  mx : c ≤ maxLen
  at_ : L ≠ [] → ∃ b o, a = some ⟨b, o, none⟩ ∧ S b ∧ ∀ i x, L[i]? = some x → V.cell? ⟨b, o + i, none⟩ = some (.int .u32 x)

theorem LR.below {A B : World} {S : Nat → Prop} {a : Option Addr} {c m : Nat} {L : List Int} (h : LR A S a c L) (k : Below m A B) (hS : ∀ b, S b → b < m) : LR B S a c L :=
  ⟨h.le, h.mx, fun hl => by
    obtain ⟨b, o, e, s, hc⟩ := h.at_ hl
    exact ⟨b, o, e, s, fun i x hx => (k.cell (p := ⟨b, o + i, none⟩) (hS b s)).trans (hc i x hx)⟩⟩

theorem lr_of {W : World} {S : Nat → Prop} {a : Option Addr} {n c : Nat} {F : Fo} (hf : Fit E F (rep (E 0) n)) (h : Fo.Sub W S a n c F) : LR W S a c (rdU F) ∧ (rdU F).length = n := by
  obtain ⟨h1, h2⟩ := rdU_fit n F hf
  refine ⟨⟨by rw [h2]; exact h.1, h.2.1, fun hl => ?_⟩, h2⟩
  have hlen : 0 < F.len := by
    rw [← Fo.vals_length, h1, List.length_map]
    exact List.length_pos_iff.2 hl
  obtain ⟨b, o, e, s, hc, -⟩ := h.2.2 hlen
  refine ⟨b, o, e, s, fun i x hx => hc i _ ?_⟩
  rw [h1, List.getElem?_map, hx]
  rfl

/-- A number that has a fault. -/
def bigBad (mn : Bool) (lm : List Int) : Prop := 40 < lm.length ∨ (lm ≠ [] ∧ lm[lm.length - 1]? = some 0) ∨ (lm = [] ∧ mn = true)

set_option maxHeartbeats 2000000 in
set_option maxRecDepth 100000 in
theorem m_big (mn : Bool) (a : Option Addr) (c : Nat) (lm : List Int) (W : World) (nb : Nat) (hnb : nb ≤ W.heap.size) (hs : LR W (fun b => b < nb) a c lm) (q : Bool) (hq : q = true ↔ bigBad mn lm) :
    Calls Try.prog 58 #[.agg #[.bool mn, .slice a lm.length c]] W fun e W' => e = .returned (.bool q) ∧ Below W.heap.size W W' := by
  obtain ⟨n, hn⟩ : ∃ n, n = lm.length := ⟨_, rfl⟩
  have hmx : n ≤ 9223372036854775807 := by have h2 := hs.le; have h3 := hs.mx; simp only [maxLen] at h3; omega
  have HB := hide (below_alloc1 W (.cells #[.bool mn, .slice a n c] 32))
  rw [← hn]
  by_cases g1 : 40 < n
  · have HQ : Hid (q = true) := hq.2 (.inl (by omega))
    have g1' : (40 : Int) < n := by omega
    clear hq hs hn
    go_enter Try.func58, Try.ntmps58
    go_wp2_with fail
    go_ret
    exact ⟨by rw [HQ.out]; rfl, HB.out⟩
  have g1' : ¬ (40 : Int) < n := by omega
  by_cases g2 : 0 < n
  · have hne : lm ≠ [] := fun e => by rw [e] at hn; simp at hn; omega
    have hs' := hs.below HB.out (fun b hb => by omega)
    obtain ⟨b, o, rfl, -, hc⟩ := hs'.at_ hne
    obtain ⟨y, hy⟩ : ∃ y, lm[n - 1]? = some y := ⟨_, List.getElem?_eq_getElem (by omega)⟩
    have y0 := hc (n - 1) y hy
    obtain ⟨n1, hn1⟩ : ∃ n1, n = n1 + 1 := ⟨n - 1, by omega⟩
    have g2' : (0 : Int) < n := by omega
    have g3' : ¬ (n : Int) = 0 := by omega
    have e1 : n - 1 = n1 := by omega
    rw [e1] at y0
    by_cases g3 : y = 0
    · have HQ : Hid (q = true) := hq.2 (.inr (.inl ⟨hne, by rw [← hn, hy, g3]⟩))
      have e2 : (n : Int) - 1 = n1 := by omega
      have e3 : (n1 : Int) < n := by omega
      clear hq hs hn hs' hc hy hne hn1 e1
      subst g3
      go_enter Try.func58, Try.ntmps58
      go_wp2_with fail
      go_ret
      exact ⟨by rw [HQ.out]; rfl, HB.out⟩
    · have HQ : Hid (q = false) := by
        cases hqq : q with
        | false => rfl
        | true =>
          rcases hq.1 hqq with h | ⟨-, h⟩ | ⟨h, -⟩
          · omega
          · rw [← hn, hy] at h; exact absurd (Option.some.inj h) g3
          · exact absurd h hne
      have e2 : (n : Int) - 1 = n1 := by omega
      have e3 : (n1 : Int) < n := by omega
      have g3'' : (y == 0) = false := by rw [beq_eq_false_iff_ne]; exact g3
      clear hq hs hn hs' hc hy hne hn1 e1
      go_enter Try.func58, Try.ntmps58
      go_wp2_with fail
      go_ret
      exact ⟨by rw [HQ.out]; rfl, HB.out⟩
  · have e0 : n = 0 := by omega
    have hne : lm = [] := List.length_eq_zero_iff.1 (by omega)
    have HQ : Hid (q = mn) := by
      cases hm : mn with
      | true => exact hq.2 (.inr (.inr ⟨hne, hm⟩))
      | false =>
        cases hqq : q with
        | false => rfl
        | true =>
          rcases hq.1 hqq with h | ⟨h, -⟩ | ⟨-, h⟩
          · omega
          · exact absurd hne h
          · rw [hm] at h; cases h
    clear hq hs hn hne g1 g1'
    subst e0
    go_enter Try.func58, Try.ntmps58
    go_wp2_with fail
    go_ret
    exact ⟨by rw [HQ.out]; rfl, HB.out⟩

end Go.Proofs.Ytcnokpaicnjkfaa

namespace Go.Proofs.Ytcnokpaicnjkfaa
open Go.RowKit Go.Joins

/-- How many kids a prim has. -/
def pcF (s : ByteArray) : Int := if (s.toList == [112, 114, 105, 109, 65, 100, 100]) = true then 2 else if (s.toList == [112, 114, 105, 109, 83, 117, 98]) = true then 2 else if (s.toList == [112, 114, 105, 109, 77, 117, 108]) = true then 2 else if (s.toList == [112, 114, 105, 109, 68, 105, 118]) = true then 2 else if (s.toList == [112, 114, 105, 109, 77, 111, 100]) = true then 2 else if (s.toList == [112, 114, 105, 109, 69, 113]) = true then 2 else if (s.toList == [112, 114, 105, 109, 76, 101, 115, 115]) = true then 2 else if (s.toList == [112, 114, 105, 109, 83, 101, 113]) = true then 2 else if (s.toList == [112, 114, 105, 109, 79, 114, 100]) = true then 1 else if (s.toList == [112, 114, 105, 109, 67, 104, 114]) = true then 1 else if (s.toList == [112, 114, 105, 109, 83, 104, 111, 119]) = true then 1 else if (s.toList == [112, 114, 105, 109, 69, 114, 114, 111, 114]) = true then 1 else 0

set_option maxHeartbeats 4000000 in
theorem mPrim (s : ByteArray) (W : World) : Calls Try.prog 61 #[.string s] W fun e W' => e = .returned (.int .i64 (pcF s)) ∧ W' = W := by
  obtain ⟨X, hX⟩ : ∃ X, pcF s = X := ⟨_, rfl⟩
  rw [hX]
  rcases hb0 : (s.toList == [112, 114, 105, 109, 65, 100, 100]) with _ | _
  rotate_left
  · obtain rfl : 2 = X := by rw [← hX]; simp only [pcF, hb0, ite_true]
    go_enter Try.func61, Try.ntmps61
    go_wp2_with fail
    go_ret
    exact ⟨rfl, rfl⟩
  rcases hb1 : (s.toList == [112, 114, 105, 109, 83, 117, 98]) with _ | _
  rotate_left
  · obtain rfl : 2 = X := by rw [← hX]; simp only [pcF, hb0, hb1, Bool.false_eq_true, ite_false, ite_true]
    go_enter Try.func61, Try.ntmps61
    go_wp2_with fail
    go_ret
    exact ⟨rfl, rfl⟩
  rcases hb2 : (s.toList == [112, 114, 105, 109, 77, 117, 108]) with _ | _
  rotate_left
  · obtain rfl : 2 = X := by rw [← hX]; simp only [pcF, hb0, hb1, hb2, Bool.false_eq_true, ite_false, ite_true]
    go_enter Try.func61, Try.ntmps61
    go_wp2_with fail
    go_ret
    exact ⟨rfl, rfl⟩
  rcases hb3 : (s.toList == [112, 114, 105, 109, 68, 105, 118]) with _ | _
  rotate_left
  · obtain rfl : 2 = X := by rw [← hX]; simp only [pcF, hb0, hb1, hb2, hb3, Bool.false_eq_true, ite_false, ite_true]
    go_enter Try.func61, Try.ntmps61
    go_wp2_with fail
    go_ret
    exact ⟨rfl, rfl⟩
  rcases hb4 : (s.toList == [112, 114, 105, 109, 77, 111, 100]) with _ | _
  rotate_left
  · obtain rfl : 2 = X := by rw [← hX]; simp only [pcF, hb0, hb1, hb2, hb3, hb4, Bool.false_eq_true, ite_false, ite_true]
    go_enter Try.func61, Try.ntmps61
    go_wp2_with fail
    go_ret
    exact ⟨rfl, rfl⟩
  rcases hb5 : (s.toList == [112, 114, 105, 109, 69, 113]) with _ | _
  rotate_left
  · obtain rfl : 2 = X := by rw [← hX]; simp only [pcF, hb0, hb1, hb2, hb3, hb4, hb5, Bool.false_eq_true, ite_false, ite_true]
    go_enter Try.func61, Try.ntmps61
    go_wp2_with fail
    go_ret
    exact ⟨rfl, rfl⟩
  rcases hb6 : (s.toList == [112, 114, 105, 109, 76, 101, 115, 115]) with _ | _
  rotate_left
  · obtain rfl : 2 = X := by rw [← hX]; simp only [pcF, hb0, hb1, hb2, hb3, hb4, hb5, hb6, Bool.false_eq_true, ite_false, ite_true]
    go_enter Try.func61, Try.ntmps61
    go_wp2_with fail
    go_ret
    exact ⟨rfl, rfl⟩
  rcases hb7 : (s.toList == [112, 114, 105, 109, 83, 101, 113]) with _ | _
  rotate_left
  · obtain rfl : 2 = X := by rw [← hX]; simp only [pcF, hb0, hb1, hb2, hb3, hb4, hb5, hb6, hb7, Bool.false_eq_true, ite_false, ite_true]
    go_enter Try.func61, Try.ntmps61
    go_wp2_with fail
    go_ret
    exact ⟨rfl, rfl⟩
  rcases hb8 : (s.toList == [112, 114, 105, 109, 79, 114, 100]) with _ | _
  rotate_left
  · obtain rfl : 1 = X := by rw [← hX]; simp only [pcF, hb0, hb1, hb2, hb3, hb4, hb5, hb6, hb7, hb8, Bool.false_eq_true, ite_false, ite_true]
    go_enter Try.func61, Try.ntmps61
    go_wp2_with fail
    go_ret
    exact ⟨rfl, rfl⟩
  rcases hb9 : (s.toList == [112, 114, 105, 109, 67, 104, 114]) with _ | _
  rotate_left
  · obtain rfl : 1 = X := by rw [← hX]; simp only [pcF, hb0, hb1, hb2, hb3, hb4, hb5, hb6, hb7, hb8, hb9, Bool.false_eq_true, ite_false, ite_true]
    go_enter Try.func61, Try.ntmps61
    go_wp2_with fail
    go_ret
    exact ⟨rfl, rfl⟩
  rcases hb10 : (s.toList == [112, 114, 105, 109, 83, 104, 111, 119]) with _ | _
  rotate_left
  · obtain rfl : 1 = X := by rw [← hX]; simp only [pcF, hb0, hb1, hb2, hb3, hb4, hb5, hb6, hb7, hb8, hb9, hb10, Bool.false_eq_true, ite_false, ite_true]
    go_enter Try.func61, Try.ntmps61
    go_wp2_with fail
    go_ret
    exact ⟨rfl, rfl⟩
  rcases hb11 : (s.toList == [112, 114, 105, 109, 69, 114, 114, 111, 114]) with _ | _
  rotate_left
  · obtain rfl : 1 = X := by rw [← hX]; simp only [pcF, hb0, hb1, hb2, hb3, hb4, hb5, hb6, hb7, hb8, hb9, hb10, hb11, Bool.false_eq_true, ite_false, ite_true]
    go_enter Try.func61, Try.ntmps61
    go_wp2_with fail
    go_ret
    exact ⟨rfl, rfl⟩
  obtain rfl : 0 = X := by rw [← hX]; simp only [pcF, hb0, hb1, hb2, hb3, hb4, hb5, hb6, hb7, hb8, hb9, hb10, hb11, Bool.false_eq_true, ite_false]
  go_enter Try.func61, Try.ntmps61
  go_wp2_with fail
  go_ret
  exact ⟨rfl, rfl⟩

set_option maxHeartbeats 4000000 in
theorem iPrim (s : ByteArray) (W : World) : Calls Try.prog 104 #[.string s] W fun e W' => e = .returned (.int .i64 (pcF s)) ∧ W' = W := by
  obtain ⟨X, hX⟩ : ∃ X, pcF s = X := ⟨_, rfl⟩
  rw [hX]
  rcases hb0 : (s.toList == [112, 114, 105, 109, 65, 100, 100]) with _ | _
  rotate_left
  · obtain rfl : 2 = X := by rw [← hX]; simp only [pcF, hb0, ite_true]
    go_enter Try.func104, Try.ntmps104
    go_wp2_with fail
    go_ret
    exact ⟨rfl, rfl⟩
  rcases hb1 : (s.toList == [112, 114, 105, 109, 83, 117, 98]) with _ | _
  rotate_left
  · obtain rfl : 2 = X := by rw [← hX]; simp only [pcF, hb0, hb1, Bool.false_eq_true, ite_false, ite_true]
    go_enter Try.func104, Try.ntmps104
    go_wp2_with fail
    go_ret
    exact ⟨rfl, rfl⟩
  rcases hb2 : (s.toList == [112, 114, 105, 109, 77, 117, 108]) with _ | _
  rotate_left
  · obtain rfl : 2 = X := by rw [← hX]; simp only [pcF, hb0, hb1, hb2, Bool.false_eq_true, ite_false, ite_true]
    go_enter Try.func104, Try.ntmps104
    go_wp2_with fail
    go_ret
    exact ⟨rfl, rfl⟩
  rcases hb3 : (s.toList == [112, 114, 105, 109, 68, 105, 118]) with _ | _
  rotate_left
  · obtain rfl : 2 = X := by rw [← hX]; simp only [pcF, hb0, hb1, hb2, hb3, Bool.false_eq_true, ite_false, ite_true]
    go_enter Try.func104, Try.ntmps104
    go_wp2_with fail
    go_ret
    exact ⟨rfl, rfl⟩
  rcases hb4 : (s.toList == [112, 114, 105, 109, 77, 111, 100]) with _ | _
  rotate_left
  · obtain rfl : 2 = X := by rw [← hX]; simp only [pcF, hb0, hb1, hb2, hb3, hb4, Bool.false_eq_true, ite_false, ite_true]
    go_enter Try.func104, Try.ntmps104
    go_wp2_with fail
    go_ret
    exact ⟨rfl, rfl⟩
  rcases hb5 : (s.toList == [112, 114, 105, 109, 69, 113]) with _ | _
  rotate_left
  · obtain rfl : 2 = X := by rw [← hX]; simp only [pcF, hb0, hb1, hb2, hb3, hb4, hb5, Bool.false_eq_true, ite_false, ite_true]
    go_enter Try.func104, Try.ntmps104
    go_wp2_with fail
    go_ret
    exact ⟨rfl, rfl⟩
  rcases hb6 : (s.toList == [112, 114, 105, 109, 76, 101, 115, 115]) with _ | _
  rotate_left
  · obtain rfl : 2 = X := by rw [← hX]; simp only [pcF, hb0, hb1, hb2, hb3, hb4, hb5, hb6, Bool.false_eq_true, ite_false, ite_true]
    go_enter Try.func104, Try.ntmps104
    go_wp2_with fail
    go_ret
    exact ⟨rfl, rfl⟩
  rcases hb7 : (s.toList == [112, 114, 105, 109, 83, 101, 113]) with _ | _
  rotate_left
  · obtain rfl : 2 = X := by rw [← hX]; simp only [pcF, hb0, hb1, hb2, hb3, hb4, hb5, hb6, hb7, Bool.false_eq_true, ite_false, ite_true]
    go_enter Try.func104, Try.ntmps104
    go_wp2_with fail
    go_ret
    exact ⟨rfl, rfl⟩
  rcases hb8 : (s.toList == [112, 114, 105, 109, 79, 114, 100]) with _ | _
  rotate_left
  · obtain rfl : 1 = X := by rw [← hX]; simp only [pcF, hb0, hb1, hb2, hb3, hb4, hb5, hb6, hb7, hb8, Bool.false_eq_true, ite_false, ite_true]
    go_enter Try.func104, Try.ntmps104
    go_wp2_with fail
    go_ret
    exact ⟨rfl, rfl⟩
  rcases hb9 : (s.toList == [112, 114, 105, 109, 67, 104, 114]) with _ | _
  rotate_left
  · obtain rfl : 1 = X := by rw [← hX]; simp only [pcF, hb0, hb1, hb2, hb3, hb4, hb5, hb6, hb7, hb8, hb9, Bool.false_eq_true, ite_false, ite_true]
    go_enter Try.func104, Try.ntmps104
    go_wp2_with fail
    go_ret
    exact ⟨rfl, rfl⟩
  rcases hb10 : (s.toList == [112, 114, 105, 109, 83, 104, 111, 119]) with _ | _
  rotate_left
  · obtain rfl : 1 = X := by rw [← hX]; simp only [pcF, hb0, hb1, hb2, hb3, hb4, hb5, hb6, hb7, hb8, hb9, hb10, Bool.false_eq_true, ite_false, ite_true]
    go_enter Try.func104, Try.ntmps104
    go_wp2_with fail
    go_ret
    exact ⟨rfl, rfl⟩
  rcases hb11 : (s.toList == [112, 114, 105, 109, 69, 114, 114, 111, 114]) with _ | _
  rotate_left
  · obtain rfl : 1 = X := by rw [← hX]; simp only [pcF, hb0, hb1, hb2, hb3, hb4, hb5, hb6, hb7, hb8, hb9, hb10, hb11, Bool.false_eq_true, ite_false, ite_true]
    go_enter Try.func104, Try.ntmps104
    go_wp2_with fail
    go_ret
    exact ⟨rfl, rfl⟩
  obtain rfl : 0 = X := by rw [← hX]; simp only [pcF, hb0, hb1, hb2, hb3, hb4, hb5, hb6, hb7, hb8, hb9, hb10, hb11, Bool.false_eq_true, ite_false]
  go_enter Try.func104, Try.ntmps104
  go_wp2_with fail
  go_ret
  exact ⟨rfl, rfl⟩

theorem pcF_le (s : ByteArray) : 0 ≤ pcF s ∧ pcF s ≤ 2 := by
  unfold pcF
  repeat' split
  all_goals omega

end Go.Proofs.Ytcnokpaicnjkfaa

namespace Go.Proofs.Ytcnokpaicnjkfaa
open Go.RowKit Go.Joins

/-- A term is as its kind asks, the terms below it aside. -/
def shp (h : Hd) (kn : Nat) (al : Tm) : Prop :=
  (h.k = 2 ∨ (h.lm = [] ∧ h.mn = false)) ∧ (h.k = 8 ∨ al.len = 0) ∧ (h.k = 6 ∨ h.k = 7 ∨ h.ns = []) ∧
  ((h.k = 1 ∧ ¬ h.nm = ⟨#[]⟩ ∧ kn = 0) ∨
   (h.k = 2 ∧ h.nm = ⟨#[]⟩ ∧ kn = 0 ∧ ¬ bigBad h.mn h.lm) ∨
   (h.k = 3 ∧ h.nm.size = 1 ∧ kn = 0) ∨
   (h.k = 4 ∧ ¬ h.nm = ⟨#[]⟩) ∨
   (h.k = 10 ∧ ¬ h.nm = ⟨#[]⟩ ∧ h.nm.size ≤ 60000 ∧ kn = 0) ∨
   (h.k = 5 ∧ h.nm = ⟨#[]⟩ ∧ 2 ≤ kn) ∨
   (h.k = 6 ∧ h.nm = ⟨#[]⟩ ∧ kn = 1 ∧ ¬ h.ns = [] ∧ okNames h.ns) ∨
   (h.k = 7 ∧ h.nm = ⟨#[]⟩ ∧ ¬ h.ns = [] ∧ kn = h.ns.length + 1 ∧ okNames h.ns) ∨
   (h.k = 8 ∧ (kn = 1 ∨ kn = 2) ∧ ¬ (kn = 1 ∧ al.len = 0) ∧ (∀ c ∈ al.cons, ¬ c = ⟨#[]⟩) ∧ al.anm ∧ al.cons.Nodup) ∨
   (h.k = 9 ∧ 0 < pcF h.nm ∧ (kn : Int) = pcF h.nm))


theorem shp_1 (con : ByteArray) (cs : List ByteArray) (nm : ByteArray) (mn : Bool) (lm : List Int) (ns : List ByteArray) (kn : Nat) (al : Tm) : shp ⟨con, cs, 1, nm, mn, lm, ns⟩ kn al ↔ lm = [] ∧ mn = false ∧ al.len = 0 ∧ ns = [] ∧ ¬ nm = ⟨#[]⟩ ∧ kn = 0 := by
  simp only [shp]
  constructor
  · rintro ⟨h1, h2, h3, h4⟩
    simp at h1 h2 h3 h4
    simp_all
  · intro h
    simp_all

theorem shp_2 (con : ByteArray) (cs : List ByteArray) (nm : ByteArray) (mn : Bool) (lm : List Int) (ns : List ByteArray) (kn : Nat) (al : Tm) : shp ⟨con, cs, 2, nm, mn, lm, ns⟩ kn al ↔ al.len = 0 ∧ ns = [] ∧ nm = ⟨#[]⟩ ∧ kn = 0 ∧ ¬ bigBad mn lm := by
  simp only [shp]
  constructor
  · rintro ⟨h1, h2, h3, h4⟩
    simp at h1 h2 h3 h4
    simp_all
  · intro h
    simp_all

theorem shp_3 (con : ByteArray) (cs : List ByteArray) (nm : ByteArray) (mn : Bool) (lm : List Int) (ns : List ByteArray) (kn : Nat) (al : Tm) : shp ⟨con, cs, 3, nm, mn, lm, ns⟩ kn al ↔ lm = [] ∧ mn = false ∧ al.len = 0 ∧ ns = [] ∧ nm.size = 1 ∧ kn = 0 := by
  simp only [shp]
  constructor
  · rintro ⟨h1, h2, h3, h4⟩
    simp at h1 h2 h3 h4
    simp_all
  · intro h
    simp_all

theorem shp_4 (con : ByteArray) (cs : List ByteArray) (nm : ByteArray) (mn : Bool) (lm : List Int) (ns : List ByteArray) (kn : Nat) (al : Tm) : shp ⟨con, cs, 4, nm, mn, lm, ns⟩ kn al ↔ lm = [] ∧ mn = false ∧ al.len = 0 ∧ ns = [] ∧ ¬ nm = ⟨#[]⟩ := by
  simp only [shp]
  constructor
  · rintro ⟨h1, h2, h3, h4⟩
    simp at h1 h2 h3 h4
    simp_all
  · intro h
    simp_all

theorem shp_5 (con : ByteArray) (cs : List ByteArray) (nm : ByteArray) (mn : Bool) (lm : List Int) (ns : List ByteArray) (kn : Nat) (al : Tm) : shp ⟨con, cs, 5, nm, mn, lm, ns⟩ kn al ↔ lm = [] ∧ mn = false ∧ al.len = 0 ∧ ns = [] ∧ nm = ⟨#[]⟩ ∧ 2 ≤ kn := by
  simp only [shp]
  constructor
  · rintro ⟨h1, h2, h3, h4⟩
    simp at h1 h2 h3 h4
    simp_all
  · intro h
    simp_all

theorem shp_6 (con : ByteArray) (cs : List ByteArray) (nm : ByteArray) (mn : Bool) (lm : List Int) (ns : List ByteArray) (kn : Nat) (al : Tm) : shp ⟨con, cs, 6, nm, mn, lm, ns⟩ kn al ↔ lm = [] ∧ mn = false ∧ al.len = 0 ∧ nm = ⟨#[]⟩ ∧ kn = 1 ∧ ¬ ns = [] ∧ okNames ns := by
  simp only [shp]
  constructor
  · rintro ⟨h1, h2, h3, h4⟩
    simp at h1 h2 h3 h4
    simp_all
  · intro h
    simp_all

theorem shp_7 (con : ByteArray) (cs : List ByteArray) (nm : ByteArray) (mn : Bool) (lm : List Int) (ns : List ByteArray) (kn : Nat) (al : Tm) : shp ⟨con, cs, 7, nm, mn, lm, ns⟩ kn al ↔ lm = [] ∧ mn = false ∧ al.len = 0 ∧ nm = ⟨#[]⟩ ∧ ¬ ns = [] ∧ kn = ns.length + 1 ∧ okNames ns := by
  simp only [shp]
  constructor
  · rintro ⟨h1, h2, h3, h4⟩
    simp at h1 h2 h3 h4
    simp_all
  · intro h
    simp_all

theorem shp_8 (con : ByteArray) (cs : List ByteArray) (nm : ByteArray) (mn : Bool) (lm : List Int) (ns : List ByteArray) (kn : Nat) (al : Tm) : shp ⟨con, cs, 8, nm, mn, lm, ns⟩ kn al ↔ lm = [] ∧ mn = false ∧ ns = [] ∧ (kn = 1 ∨ kn = 2) ∧ ¬ (kn = 1 ∧ al.len = 0) ∧ (∀ c ∈ al.cons, ¬ c = ⟨#[]⟩) ∧ al.anm ∧ al.cons.Nodup := by
  simp only [shp]
  constructor
  · rintro ⟨h1, h2, h3, h4⟩
    simp at h1 h2 h3 h4
    simp_all
  · intro h
    simp_all

theorem shp_9 (con : ByteArray) (cs : List ByteArray) (nm : ByteArray) (mn : Bool) (lm : List Int) (ns : List ByteArray) (kn : Nat) (al : Tm) : shp ⟨con, cs, 9, nm, mn, lm, ns⟩ kn al ↔ lm = [] ∧ mn = false ∧ al.len = 0 ∧ ns = [] ∧ 0 < pcF nm ∧ (kn : Int) = pcF nm := by
  simp only [shp]
  constructor
  · rintro ⟨h1, h2, h3, h4⟩
    simp at h1 h2 h3 h4
    simp_all
  · intro h
    simp_all

theorem shp_10 (con : ByteArray) (cs : List ByteArray) (nm : ByteArray) (mn : Bool) (lm : List Int) (ns : List ByteArray) (kn : Nat) (al : Tm) : shp ⟨con, cs, 10, nm, mn, lm, ns⟩ kn al ↔ lm = [] ∧ mn = false ∧ al.len = 0 ∧ ns = [] ∧ ¬ nm = ⟨#[]⟩ ∧ nm.size ≤ 60000 ∧ kn = 0 := by
  simp only [shp]
  constructor
  · rintro ⟨h1, h2, h3, h4⟩
    simp at h1 h2 h3 h4
    simp_all
  · intro h
    simp_all

theorem shp_other (h : Hd) (kn : Nat) (al : Tm) (h1 : ¬ h.k = 1) (h2 : ¬ h.k = 2) (h3 : ¬ h.k = 3) (h4 : ¬ h.k = 4) (h5 : ¬ h.k = 5) (h6 : ¬ h.k = 6) (h7 : ¬ h.k = 7) (h8 : ¬ h.k = 8) (h9 : ¬ h.k = 9) (h10 : ¬ h.k = 10) : ¬ shp h kn al := by
  simp only [shp]
  rintro ⟨-, -, -, h⟩
  simp_all

end Go.Proofs.Ytcnokpaicnjkfaa
