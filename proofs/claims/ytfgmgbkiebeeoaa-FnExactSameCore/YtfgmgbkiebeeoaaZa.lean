import Derived.Test.YtfgmgbkiebeeoaaKa
import Derived.Test.YtfgmgbkiebeeoaaUt
import Derived.Test.YtfgmgbkiebeeoaaUq
import Derived.Deep.RegionHeld3
import Derived.Deep.DeepCutAuto
namespace Go.Proofs.Ytfgmgbkiebeeoaa
open Go.RowKit Go.Joins

mutual
/-- The terms in a row of terms, and below it. -/
def tcK : Fo → Nat
  | .v _ (.v _ (.v _ (.s _ _ _ _ (.s _ _ _ _ (.s _ _ _ kk (.s _ _ _ ak r)))))) => 1 + tcK kk + tcA ak + tcK r
  | _ => 0
/-- The terms in a row of alternatives. -/
def tcA : Fo → Nat
  | .v _ (.s _ _ _ _ (.v _ (.v _ (.v _ (.s _ _ _ _ (.s _ _ _ _ (.s _ _ _ kk (.s _ _ _ ak r)))))))) => 1 + tcK kk + tcA ak + tcA r
  | _ => 0
end

theorem tcK_nil : tcK .nil = 0 := by rw [tcK]; intros; contradiction
theorem tcA_nil : tcA .nil = 0 := by rw [tcA]; intros; contradiction
theorem tcK_nd (k nm mn : Value) (la na ka aa : Option Addr) (ln lc nn nc kn kc an ac : Nat) (lk nk kk ak r : Fo) :
    tcK (.v k (.v nm (.v mn (.s la ln lc lk (.s na nn nc nk (.s ka kn kc kk (.s aa an ac ak r))))))) = 1 + tcK kk + tcA ak + tcK r := by rw [tcK]
theorem tcA_nd (con : Value) (ca : Option Addr) (cn cc : Nat) (ck : Fo) (k nm mn : Value) (la na ka aa : Option Addr) (ln lc nn nc kn kc an ac : Nat) (lk nk kk ak r : Fo) :
    tcA (.v con (.s ca cn cc ck (.v k (.v nm (.v mn (.s la ln lc lk (.s na nn nc nk (.s ka kn kc kk (.s aa an ac ak r))))))))) = 1 + tcK kk + tcA ak + tcA r := by rw [tcA]

/-- A term taken apart. -/
theorem core_open {x : Fo} (hx : Fit E x (E 3)) : ∃ (k : Int) (nm : ByteArray) (mn : Bool) (la : Option Addr) (ln lc : Nat) (lk : Fo) (na : Option Addr) (nn nc : Nat) (nk : Fo) (ka : Option Addr) (kn kc : Nat) (kk : Fo) (aa : Option Addr) (an ac : Nat) (ak : Fo),
    x = .v (.int .i64 k) (.v (.string nm) (.v (.bool mn) (.s la ln lc lk (.s na nn nc nk (.s ka kn kc kk (.s aa an ac ak .nil)))))) ∧ (Lit.int .i64 k).wf = true ∧ nm.size ≤ maxLen ∧ Fit E lk (rep (E 0) ln) ∧ Fit E nk (rep (E 1) nn) ∧ Fit E kk (rep (E 3) kn) ∧ Fit E ak (rep (E 2) an) := by
  replace hx : Fit E x [.i, .t, .b, .s 0, .s 1, .s 3, .s 2] := hx
  obtain ⟨k, F0, rfl, hk, hx⟩ := fit_i hx
  obtain ⟨nm, F1, rfl, hn, hx⟩ := fit_t hx
  obtain ⟨mn, F2, rfl, hx⟩ := fit_b hx
  obtain ⟨la, ln, lc, lk, F3, rfl, h3, hx⟩ := fit_s hx
  obtain ⟨na, nn, nc, nk, F4, rfl, h4, hx⟩ := fit_s hx
  obtain ⟨ka, kn, kc, kk, F5, rfl, h5, hx⟩ := fit_s hx
  obtain ⟨aa, an, ac, ak, F6, rfl, h6, hx⟩ := fit_s hx
  obtain rfl := fit_nil hx
  exact ⟨k, nm, mn, la, ln, lc, lk, na, nn, nc, nk, ka, kn, kc, kk, aa, an, ac, ak, rfl, hk, hn, h3, h4, h5, h6⟩

/-- An alternative taken apart. -/
theorem alt_open {x : Fo} (hx : Fit E x (E 2)) : ∃ (con : ByteArray) (ca : Option Addr) (cn cc : Nat) (ck y : Fo), x = .v (.string con) (.s ca cn cc ck y) ∧ con.size ≤ maxLen ∧ Fit E ck (rep (E 1) cn) ∧ Fit E y (E 3) := by
  replace hx : Fit E x (.t :: .s 1 :: E 3) := hx
  obtain ⟨con, F0, rfl, hk, hx⟩ := fit_t hx
  obtain ⟨ca, cn, cc, ck, F1, rfl, h1, hx⟩ := fit_s hx
  exact ⟨con, ca, cn, cc, ck, F1, rfl, hk, h1, hx⟩

theorem tcK_app {x : Fo} (hx : Fit E x (E 3)) (q : Fo) : tcK (x.app q) = tcK x + tcK q := by
  obtain ⟨k, nm, mn, la, ln, lc, lk, na, nn, nc, nk, ka, kn, kc, kk, aa, an, ac, ak, rfl, -⟩ := core_open hx
  simp only [Fo.app]
  rw [tcK_nd, tcK_nd, tcK_nil]
  omega

theorem tcA_app {x : Fo} (hx : Fit E x (E 2)) (q : Fo) : ∃ (con : ByteArray) (ca : Option Addr) (cn cc : Nat) (ck y : Fo), x = .v (.string con) (.s ca cn cc ck y) ∧ Fit E y (E 3) ∧ tcA (x.app q) = tcK y + tcA q := by
  obtain ⟨con, ca, cn, cc, ck, y, rfl, -, h1, hy⟩ := alt_open hx
  refine ⟨con, ca, cn, cc, ck, y, rfl, hy, ?_⟩
  obtain ⟨k, nm, mn, la, ln, lc, lk, na, nn, nc, nk, ka, kn, kc, kk, aa, an, ac, ak, rfl, -⟩ := core_open hy
  simp only [Fo.app]
  rw [tcA_nd, tcK_nd, tcK_nil]
  omega

/-- Not more terms than cells. -/
theorem tc_le : ∀ (m : Nat) (F : Fo), F.size ≤ m → tcK F ≤ F.size ∧ tcA F ≤ F.size := by
  intro m
  induction m with
  | zero =>
    intro F h
    cases F with
    | nil => rw [tcK_nil, tcA_nil]; exact ⟨Nat.zero_le _, Nat.zero_le _⟩
    | v x r => simp only [Fo.size] at h; omega
    | s a n c ks r => simp only [Fo.size] at h; omega
  | succ m ih =>
    intro F h
    constructor
    · unfold tcK
      split
      · rename_i ka kn kc kk aa an ac ak r
        simp only [Fo.size] at h ⊢
        have := (ih kk (by omega)).1
        have := (ih ak (by omega)).2
        have := (ih r (by omega)).1
        omega
      · exact Nat.zero_le _
    · unfold tcA
      split
      · rename_i ka kn kc kk aa an ac ak r
        simp only [Fo.size] at h ⊢
        have := (ih kk (by omega)).1
        have := (ih ak (by omega)).2
        have := (ih r (by omega)).2
        omega
      · exact Nat.zero_le _

/-- The model's count, its contract for terms of at most m cells. -/
def CtC (m : Nat) : Prop := ∀ (F : Fo) (nb : Nat) (W : World), F.size ≤ m → Fit E F (E 3) → nb ≤ W.heap.size → F.size ≤ 100000000 → F.Subs W (fun c => c < nb) →
  Calls Try.prog 6 #[.agg F.vals.toArray] W (fun e W' => e = .returned (.int .i64 (tcK F : Int)) ∧ Below W.heap.size W W')

set_option maxHeartbeats 4000000 in
set_option maxRecDepth 100000 in
theorem ct_step (m : Nat) (ih : CtC m) : CtC (m + 1) := by
  intro F nb W hm hf hnb hsz hs
  have htot := (tc_le _ F (Nat.le_refl _)).1
  obtain ⟨k, nm, mn, la, ln, lc, lk, na, nn, nc, nk, ka, kn, kc, kk, aa, an, ac, ak, rfl, -, -, h3, h4, h5, h6⟩ := core_open hf
  obtain ⟨hs3, hs4, hs5, hs6, -⟩ := hs
  rw [tcK_nd, tcK_nil] at htot ⊢
  simp only [Fo.size] at hm hsz htot
  simp only [Fo.vals]
  obtain ⟨TK, hTK⟩ : ∃ x, tcK kk = x := ⟨_, rfl⟩
  obtain ⟨TA, hTA⟩ : ∃ x, tcA ak = x := ⟨_, rfl⟩
  rw [hTK, hTA] at htot ⊢
  have hb1 : TK + TA ≤ 200000000 := by omega
  obtain ⟨V0, hV0⟩ : ∃ V, W.alloc (.cells #[.int .i64 k, .string nm, .bool mn, .slice la ln lc, .slice na nn nc, .slice ka kn kc, .slice aa an ac] 36) = V := ⟨_, rfl⟩
  have b0 : Below W.heap.size W V0 := by rw [← hV0]; exact below_alloc1 _ _
  have q0 : Bx V0 W.heap.size [.int .i64 k, .string nm, .bool mn, .slice la ln lc, .slice na nn nc, .slice ka kn kc, .slice aa an ac] := by rw [← hV0]; exact Bx.new _ _ _
  have z0 : V0.heap.size = W.heap.size + 1 := by rw [← hV0]; simp
  have HB0 := hide b0
  have HQ0 := hide q0
  have HV0 := hide hV0
  have HZ := hide z0
  have HTK := hide hTK
  have HTA := hide hTA
  have hax : an ≤ 9223372036854775807 := by have h2 := hs6.1; have h3 := hs6.2.1; simp only [maxLen] at h3; omega
  have hkx : kn ≤ 9223372036854775807 := by have h2 := hs5.1; have h3 := hs5.2.1; simp only [maxLen] at h3; omega
  have HRA : Hid (∀ V, Below V0.heap.size V0 V → Rd E (E 2) an nb aa 0 ak V) := fun V k => ((Rd.start h6 hs6).below b0 hnb).below k (by omega)
  have HRK : Hid (Rd E (E 3) kn nb ka 0 kk V0) := (Rd.start h5 hs5).below b0 hnb
  have HM : Hid (kk.size ≤ m ∧ ak.size ≤ m ∧ kk.size ≤ 100000000 ∧ ak.size ≤ 100000000) := by refine ⟨?_, ?_, ?_, ?_⟩ <;> omega
  have HQL : Hid (∀ V, Below V0.heap.size V0 V → V.cell? ⟨W.heap.size, 5, none⟩ = some (.slice ka kn kc) ∧ V.cell? ⟨W.heap.size, 6, none⟩ = some (.slice aa an ac)) := fun V k => ⟨(k.cell (p := ⟨W.heap.size, 5, none⟩) (by show W.heap.size < _; omega)).trans (q0.cel 5 _ rfl), (k.cell (p := ⟨W.heap.size, 6, none⟩) (by show W.heap.size < _; omega)).trans (q0.cel 6 _ rfl)⟩
  clear hV0 b0 q0 z0 hTK hTA htot hs3 hs4 hs5 hs6 h3 h4 hm hsz
  go_enter Try.func6, Try.ntmps6
  go_upto_region 3 with fail
  rw [HV0.out]
  clear HV0
  go_loopw [3, 4] (fun s3 s4 wr => ∃ (i u : Nat) (r : Fo), s4 = .int .i64 i ∧ s3 = .int .i64 ((1 : Int) + u) ∧ i ≤ kn ∧ Hid (u + tcK r = TK ∧ r.size ≤ kk.size) ∧ Hid (Rd E (E 3) kn nb ka i r wr) ∧ Hid (Below V0.heap.size V0 wr)) (fun _ s4 _ => kn - (intOf s4).toNat)
  case atStart => exact ⟨0, 0, kk, rfl, rfl, Nat.zero_le _, ⟨by rw [HTK.out]; omega, Nat.le_refl _⟩, HRK, Below.refl _ _⟩
  case round =>
    obtain ⟨j, u, r, rfl, rfl, hjn, hcu, hRd, hK⟩ := hrel
    have c5 := (HQL.out wr hK.out).1
    by_cases hj : j < kn
    · obtain ⟨x, rr, b, o, rfl, hx, rfl, hb, hc, hxs, hR1⟩ := hRd.out.next hj (by decide)
      obtain ⟨g1, g2⟩ := hcu.out
      rw [tcK_app hx] at g1
      rw [Fo.app_size] at g2
      have hjj : (j : Int) < kn := by omega
      have hzw : nb ≤ wr.heap.size := by have := hK.out.size; have := HZ.out; omega
      have HC := hide (ih x nb wr (by have := HM.out; omega) hx hzw (by have := HM.out; omega) hxs)
      obtain ⟨X, hX⟩ : ∃ X, tcK x = X := ⟨_, rfl⟩
      rw [hX] at HC g1
      have HG : Hid ((u + X) + tcK rr = TK ∧ rr.size ≤ kk.size) := ⟨by omega, by omega⟩
      have hbd : u + X ≤ 200000000 := by omega
      have HR1 := hide hR1
      have HZW := hide hzw
      obtain ⟨xk, xnm, xmn, xla, xln, xlc, xlk, xna, xnn, xnc, xnk, xka, xkn, xkc, xkk, xaa, xan, xac, xak, rfl, -⟩ := core_open hx
      simp only [Fo.vals] at HC hc
      have p0 : wr.cell? ⟨b, o + j * 7, none⟩ = some (.int .i64 xk) := hc 0 _ rfl
      have p1 : wr.cell? ⟨b, o + j * 7 + 1, none⟩ = some (.string xnm) := hc 1 _ rfl
      have p2 : wr.cell? ⟨b, o + j * 7 + 2, none⟩ = some (.bool xmn) := hc 2 _ rfl
      have p3 : wr.cell? ⟨b, o + j * 7 + 3, none⟩ = some (.slice xla xln xlc) := hc 3 _ rfl
      have p4 : wr.cell? ⟨b, o + j * 7 + 4, none⟩ = some (.slice xna xnn xnc) := hc 4 _ rfl
      have p5 : wr.cell? ⟨b, o + j * 7 + 5, none⟩ = some (.slice xka xkn xkc) := hc 5 _ rfl
      have p6 : wr.cell? ⟨b, o + j * 7 + 6, none⟩ = some (.slice xaa xan xac) := hc 6 _ rfl
      clear hc hxs hx hX g1 g2 hcu hRd hR1 hzw
      go_wp2_with (go_at_call 6; refine HC.out.mono ?_; rintro e w1 ⟨rfl, k1⟩; have HKn := hide (hK.out.trans (k1.mono hK.out.size)); have HRn := hide (HR1.out.below k1 HZW.out); clear k1)
      go_roundw
      case rel => exact ⟨j + 1, u + X, rr, by go_num, by go_num, by omega, HG, HRn, HKn⟩
      case measure => simp [intOf]; omega
    · obtain ⟨rfl, rfl⟩ := hRd.out.done hj
      obtain ⟨g1, -⟩ := hcu.out
      rw [tcK_nil] at g1
      have hu : u = TK := by omega
      subst hu
      have HRA2 := hide (HRA.out wr hK.out)
      clear g1 hcu hRd HRA
      go_wp2_with fail
      go_loopw [3, 5] (fun s3 s5 wr => ∃ (i v : Nat) (r : Fo), s5 = .int .i64 i ∧ s3 = .int .i64 ((1 : Int) + (u : Int) + v) ∧ i ≤ an ∧ Hid (v + tcA r = TA ∧ r.size ≤ ak.size) ∧ Hid (Rd E (E 2) an nb aa i r wr) ∧ Hid (Below V0.heap.size V0 wr)) (fun _ s5 _ => an - (intOf s5).toNat)
      case atStart => exact ⟨0, 0, ak, rfl, by simp, Nat.zero_le _, ⟨by rw [HTA.out]; omega, Nat.le_refl _⟩, HRA2, hK⟩
      case round =>
        obtain ⟨i, v, r, rfl, rfl, hin, hcu, hRd, hK2⟩ := hrel
        have c6 := (HQL.out wr hK2.out).2
        by_cases hi : i < an
        · obtain ⟨x, rr, b, o, rfl, hx, rfl, hb, hc, hxs, hR1⟩ := hRd.out.next hi (by decide)
          obtain ⟨g1, g2⟩ := hcu.out
          obtain ⟨con, ca, cn, cc, ck, y, rfl, hy, hap⟩ := tcA_app hx rr
          rw [hap] at g1
          rw [Fo.app_size] at g2
          simp only [Fo.size] at g2
          have hii : (i : Int) < an := by omega
          have hzw : nb ≤ wr.heap.size := by have := hK2.out.size; have := HZ.out; omega
          have HC := hide (ih y nb wr (by have := HM.out; omega) hy hzw (by have := HM.out; omega) hxs.2)
          obtain ⟨X, hX⟩ : ∃ X, tcK y = X := ⟨_, rfl⟩
          rw [hX] at HC g1
          have HG : Hid ((v + X) + tcA rr = TA ∧ rr.size ≤ ak.size) := ⟨by omega, by omega⟩
          have hbd : v + X ≤ 200000000 := by omega
          have HR1 := hide hR1
          have HZW := hide hzw
          obtain ⟨xk, xnm, xmn, xla, xln, xlc, xlk, xna, xnn, xnc, xnk, xka, xkn, xkc, xkk, xaa, xan, xac, xak, rfl, -⟩ := core_open hy
          simp only [Fo.vals] at HC hc
          have p0 : wr.cell? ⟨b, o + i * 9 + 2, none⟩ = some (.int .i64 xk) := hc 2 _ rfl
          have p1 : wr.cell? ⟨b, o + i * 9 + 2 + 1, none⟩ = some (.string xnm) := hc 3 _ rfl
          have p2 : wr.cell? ⟨b, o + i * 9 + 2 + 2, none⟩ = some (.bool xmn) := hc 4 _ rfl
          have p3 : wr.cell? ⟨b, o + i * 9 + 2 + 3, none⟩ = some (.slice xla xln xlc) := hc 5 _ rfl
          have p4 : wr.cell? ⟨b, o + i * 9 + 2 + 4, none⟩ = some (.slice xna xnn xnc) := hc 6 _ rfl
          have p5 : wr.cell? ⟨b, o + i * 9 + 2 + 5, none⟩ = some (.slice xka xkn xkc) := hc 7 _ rfl
          have p6 : wr.cell? ⟨b, o + i * 9 + 2 + 6, none⟩ = some (.slice xaa xan xac) := hc 8 _ rfl
          clear hc hxs hx hX g1 g2 hcu hRd hR1 hap hy hzw
          go_wp2_with (go_at_call 6; refine HC.out.mono ?_; rintro e w1 ⟨rfl, k1⟩; have HKn := hide (hK2.out.trans (k1.mono hK2.out.size)); have HRn := hide (HR1.out.below k1 HZW.out); clear k1)
          go_roundw
          case rel => exact ⟨i + 1, v + X, rr, by go_num, by go_num, by omega, HG, HRn, HKn⟩
          case measure => simp [intOf]; omega
        · obtain ⟨rfl, rfl⟩ := hRd.out.done hi
          obtain ⟨g1, -⟩ := hcu.out
          rw [tcA_nil] at g1
          have hv : v = TA := by omega
          subst hv
          have HF : Hid (Below W.heap.size W wr) := HB0.out.trans (hK2.out.mono (by have := HZ.out; omega))
          clear g1 hcu hRd
          go_wp2_with fail
          go_ret
          exact ⟨by simp, HF.out⟩

theorem ct_all : ∀ m, CtC m
  | 0 => fun F nb W hm hf => by
    obtain ⟨k, nm, mn, la, ln, lc, lk, na, nn, nc, nk, ka, kn, kc, kk, aa, an, ac, ak, rfl, -⟩ := core_open hf
    simp only [Fo.size] at hm
    omega
  | m + 1 => ct_step m (ct_all m)

end Go.Proofs.Ytfgmgbkiebeeoaa
