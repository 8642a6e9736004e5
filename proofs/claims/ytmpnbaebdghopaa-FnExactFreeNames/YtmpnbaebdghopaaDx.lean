import Derived.Test.YtmpnbaebdghopaaJC
namespace Go.Proofs.Ytmpnbaebdghopaa
open Go.RowKit Go.Joins

set_option maxHeartbeats 4000000 in
set_option maxRecDepth 100000 in
/-- What a CCase binds its name in: the alternatives, and the kids but the first. -/
theorem go_139 (m : Nat) (ih : LkC m) (B0 fb hb kb cb vb db do_ : Nat) (f : ByteArray → Int) (B M : List ByteArray) (n Bd : Nat) (ob : Option Nat) (ka aa : Option Addr) (kn kc an ac : Nat) (kq ak : Fo) (W : World) (hm : (kq.size ≤ m ∧ ak.size ≤ m) ∧ kq.wt ≤ 1048576 ∧ ak.wt ≤ 1048576) (hM : ak.size + kq.size + M.length ≤ 16777216) (hBd : Bd + ak.size + kq.size ≤ 1099511627776) (hn : n + 4 * ak.size + 4 * kq.size ≤ 1099511627776)
    (hR : Rd E (E 3) kn B0 ka 1 kq W) (k0 k1 k' : Nat) (hka : ka = some ⟨k0, k1, none⟩) (hk1 : kn = k' + 1) (hkx : kn ≤ 16777216 ∧ kn ≤ kc ∧ kc ≤ 9223372036854775807) (hfit : Fit E ak (rep (E 2) an)) (hsub : ak.Sub W (fun b => b < B0) aa an ac) (hgd : (rdK kq).good ∧ (rdA ak).good) (hF : FS B0 fb hb kb f M n ob W) (hf : ∀ t, 0 ≤ f t ∧ f t ≤ Bd) (hfB : ∀ t, ¬ t = ⟨#[]⟩ → (0 < f t ↔ t ∈ B))
    (hcb : W.cell? ⟨cb, 0, none⟩ = some (.pointer (some ⟨db, do_, none⟩))) (hvb : W.cell? ⟨vb, 0, none⟩ = some (.iface 148 (.pointer (some ⟨fb, 0, none⟩)))) (h5 : W.cell? ⟨db, do_ + 5, none⟩ = some (.slice ka kn kc)) (h6 : W.cell? ⟨db, do_ + 6, none⟩ = some (.slice aa an ac)) (oc : Off fb hb kb ob cb) (ov : Off fb hb kb ob vb) (od : Off fb hb kb ob db) :
    Calls Try.prog 139 #[.pointer (some ⟨cb, 0, none⟩), .pointer (some ⟨vb, 0, none⟩)] W fun e W' => (∃ v, e = .returned v) ∧ FT B0 fb hb kb f (adds M (((rdA ak).occ B B).flatten ++ ((rdK kq).occ B B).flatten)) (n + 4 * ak.size + 4 * kq.size) ob W W' := by
  subst hka
  subst hk1
  have hB0 : B0 ≤ W.heap.size := by have := hF.lo.1; have := hF.fb_lt; omega
  have HCC : Hid (∀ V, Kept (Off fb hb kb ob) W V → V.cell? ⟨vb, 0, none⟩ = some (.iface 148 (.pointer (some ⟨fb, 0, none⟩))) ∧ V.cell? ⟨cb, 0, none⟩ = some (.pointer (some ⟨db, do_, none⟩)) ∧ V.cell? ⟨db, do_ + 5, none⟩ = some (.slice (some ⟨k0, k1, none⟩) (k' + 1) kc) ∧ V.cell? ⟨db, do_ + 6, none⟩ = some (.slice aa an ac)) := fun V k => ⟨(k.cell (p := ⟨vb, 0, none⟩) (block_lt_of_cell hvb) ov).trans hvb, (k.cell (p := ⟨cb, 0, none⟩) (block_lt_of_cell hcb) oc).trans hcb, (k.cell (p := ⟨db, do_ + 5, none⟩) (block_lt_of_cell h5) od).trans h5, (k.cell (p := ⟨db, do_ + 6, none⟩) (block_lt_of_cell h6) od).trans h6⟩
  have hlz : vb < W.heap.size := block_lt_of_cell hvb
  have han : an ≤ 16777216 := by
    have e1 := Fit.len hfit
    rw [rep_len] at e1
    have e2 : (E 2).length = 9 := rfl
    rw [e2] at e1
    have := ak.len_le
    omega
  have HR0 : Hid (Rd E (E 2) an B0 aa 0 ak W) := Rd.start hfit hsub
  have HRK := hide hR
  have HF0 := hide hF
  have HGD := hide hgd
  have HFF := hide hf
  have HFB := hide hfB
  have HIH := hide ih
  have HOV := hide ov
  clear hF hgd hf hfB ih hfit hsub oc od ov hR h5
  go_enter Try.func139, Try.ntmps139
  go_wp2_with fail
  go_loopw [12] (fun s12 wr => ∃ (i : Nat) (r : Fo) (Mi : List ByteArray) (ni : Nat) (oi : Option Nat), s12 = .int .i64 i ∧ i ≤ an ∧ Hid (Rd E (E 2) an B0 aa i r wr) ∧ Hid (adds Mi ((rdA r).occ B B).flatten = adds M ((rdA ak).occ B B).flatten ∧ (rdA r).good ∧ Mi.length + r.size + kq.size ≤ 16777216 ∧ ni + 4 * r.size ≤ n + 4 * ak.size ∧ r.size ≤ ak.size ∧ r.wt ≤ 1048576) ∧ Hid (FS B0 fb hb kb f Mi ni oi wr) ∧ Hid (Kept (Off fb hb kb ob) W wr ∧ (oi = ob ∨ ∃ b, oi = some b ∧ W.heap.size ≤ b))) (fun s12 _ => an - (intOf s12).toNat)
  case atStart => exact ⟨0, ak, M, n, ob, rfl, Nat.zero_le _, HR0, ⟨rfl, HGD.out.2, by omega, Nat.le_refl _, Nat.le_refl _, hm.2.2⟩, HF0, Kept.refl _ _, .inl rfl⟩
  case round =>
    clear hcb hvb h6
    obtain ⟨i, r, Mi, ni, oi, rfl, hin, hRd, hinv, hFS, hKp⟩ := hrel
    by_cases hi : i < an
    · obtain ⟨x, q, b, o, rfl, hx, rfl, hb', hc, hxs, hR1⟩ := hRd.out.next hi (by decide)
      have hii : (i : Int) < an := by omega
      obtain ⟨con, ca, cn, cc, ck, y, hxe, hck, hy, e1⟩ := occA_app hx q B
      obtain ⟨con2, ca2, cn2, cc2, ck2, y2, hxe2, -, e2⟩ := goodA_app hx q
      rw [hxe] at hxe2
      injection hxe2 with w1 w2
      injection w2 with w3 w4 w5 w6 w7
      subst w7
      obtain ⟨g1, g2, g3, g4, g5, g6⟩ := hinv.out
      rw [e1, adds_append] at g1
      rw [e2] at g2
      rw [Fo.app_size] at g3 g4 g5
      rw [Fo.app_wt] at g6
      have hsw : y.wt ≤ x.wt := by rw [hxe]; simp only [Fo.wt]; omega
      have hsx : x.size = 2 + ck.size + y.size := by rw [hxe]; simp only [Fo.size]; omega
      rw [hxe] at hc hxs
      simp only [Fo.vals] at hc
      have hzw : B0 ≤ wr.heap.size := Nat.le_trans hB0 hKp.out.1.size
      have hvw : vb < wr.heap.size := Nat.lt_of_lt_of_le hlz hKp.out.1.size
      have hcy : Cel wr y.vals b (o + i * 9 + 2) := fun j v hv => by
        have h := hc (j + 2) v (by simpa using hv)
        have e : o + i * 9 + (j + 2) = o + i * 9 + 2 + j := by omega
        have e9 : (E 2).length = 9 := rfl
        rw [e9, e] at h
        exact h
      have hok : Nd.Ok wr (fun b => b < B0) ⟨b, o + i * 9 + 2, y⟩ := ⟨hy, hcy, hxs.2, hb'⟩
      have c1 : wr.cell? ⟨b, o + i * 9 + 1, none⟩ = some (.slice ca cn cc) := hc 1 _ rfl
      obtain ⟨hsr, hln⟩ := sr_of hck hxs.1
      have hcn : cn ≤ ck.size := by
        have h1 := Fit.len hck
        rw [rep_len] at h1
        have h2 : (E 1).length = 1 := rfl
        rw [h2] at h1
        have := ck.len_le
        omega
      have kx : Below wr.heap.size wr (wr.alloc (.cells #[.pointer (some ⟨b, o + i * 9, none⟩)] 138)).drew := (below_alloc1 _ _).drew
      obtain ⟨Vx, hVx⟩ : ∃ V, (wr.alloc (.cells #[.pointer (some ⟨b, o + i * 9, none⟩)] 138)).drew = V := ⟨_, rfl⟩
      rw [hVx] at kx
      have zx : Vx.heap.size = wr.heap.size + 1 := by rw [← hVx]; simp
      have xa : Vx.cell? ⟨wr.heap.size, 0, none⟩ = some (.pointer (some ⟨b, o + i * 9, none⟩)) := by rw [← hVx]; simp
      have xv := (kx.cell (p := ⟨vb, 0, none⟩) hvw).trans (HCC.out wr hKp.out.1).1
      have x1 := (kx.cell (p := ⟨b, o + i * 9 + 1, none⟩) (by show b < _; omega)).trans c1
      have hFx := hFS.out.below kx
      have hlh : hb < wr.heap.size := hFS.out.hm.lt
      have hlk : kb < wr.heap.size := hFS.out.km.lt
      have hlf := hFS.out.fb_lt
      have hlo : ∀ b, oi = some b → b < wr.heap.size := fun b e => (hFS.out.ob_lt b e).2
      have ovi : Off fb hb kb oi vb := Off.next HOV.out hlz hKp.out.2
      have oai : Off fb hb kb oi wr.heap.size := ⟨by omega, by omega, by omega, fun e => by have := hlo _ e; omega⟩
      have hCA : Calls Try.prog 145 #[.pointer (some ⟨fb, 0, none⟩), .slice ca (rdS ck).length cc, .func (.func 140) #[] #[.pointer (some ⟨vb, 0, none⟩), .pointer (some ⟨wr.heap.size, 0, none⟩)]] Vx (fun e W3 => (∃ v, e = .returned v) ∧ FT B0 fb hb kb f (adds Mi ((rdK y).occ (B ++ rdS ck) (B ++ rdS ck)).flatten) (ni + cn + 4 * y.size + (rdS ck).length) oi Vx W3) := by
        refine reach_fs 140 _ (enters_of Try.func140 (by kernel_rfl) rfl) B0 fb hb kb f Mi _ ni (ni + cn + 4 * y.size) Bd oi ca cc (rdS ck) Vx hFx HFF.out ⟨by omega, by omega, by omega, by omega⟩ ?_ (rdS_sz _ _ hck) (fun Wx hk hFy => ?_)
        · have h := hsr.below kx (fun b hb' => by omega)
          exact ⟨h.le, h.mx, fun hl => by obtain ⟨b, o, e, s, c⟩ := h.at_ hl; exact ⟨b, o, e, ⟨hFS.out.off s, by omega⟩, c⟩⟩
        · rw [hln] at hFy
          refine go_140 m HIH.out B0 fb hb kb vb wr.heap.size b (o + i * 9) (incF f (rdS ck)) (B ++ rdS ck) Mi (ni + cn) (Bd + (rdS ck).length) oi y Wx ⟨by omega, by omega⟩ (by omega) (by omega) (by omega) ?_ g2.1 hFy (incF_bd (rdS ck) HFF.out) (incF_mem (fun t => (HFF.out t).1) HFB.out) ?_ ?_ ovi oai
          · exact Nd.Ok.kept (Nd.Ok.kept hok (kt (S := fun _ => True) kx) (fun b hb' => ⟨trivial, by omega⟩)) hk (fun b hb' => ⟨by have := hFS.out.lo.2.1; show b ≠ hb; omega, by omega⟩)
          · exact (hk.cell (p := ⟨vb, 0, none⟩) (by show vb < _; omega) ovi.2.1).trans xv
          · exact (hk.cell (p := ⟨wr.heap.size, 0, none⟩) (by show wr.heap.size < _; omega) oai.2.1).trans xa
      rw [hln] at hCA
      have HCA := hide hCA
      have kk0 : Vx.cell? ⟨vb, 0, none⟩ = some (.iface 148 (.pointer (some ⟨fb, 0, none⟩))) ∧ Vx.cell? ⟨wr.heap.size, 0, none⟩ = some (.pointer (some ⟨b, o + i * 9, none⟩)) ∧ Vx.cell? ⟨b, o + i * 9 + 1, none⟩ = some (.slice ca cn cc) := ⟨xv, xa, x1⟩
      have HKV : Hid (∀ V, Kept (Off fb hb kb oi) Vx V → V.cell? ⟨vb, 0, none⟩ = some (.iface 148 (.pointer (some ⟨fb, 0, none⟩))) ∧ V.cell? ⟨wr.heap.size, 0, none⟩ = some (.pointer (some ⟨b, o + i * 9, none⟩)) ∧ V.cell? ⟨b, o + i * 9 + 1, none⟩ = some (.slice ca cn cc)) := fun V k => ⟨(k.cell (p := ⟨vb, 0, none⟩) (by show vb < _; omega) ovi).trans xv, (k.cell (p := ⟨wr.heap.size, 0, none⟩) (by show wr.heap.size < _; omega) oai).trans xa, (k.cell (p := ⟨b, o + i * 9 + 1, none⟩) (by show b < _; omega) (hFS.out.off hb')).trans x1⟩
      have HG1 := hide g1
      have HG2 := hide g2.2
      have HSX : Hid (x.size = 2 + ck.size + y.size ∧ cn ≤ ck.size) := ⟨hsx, hcn⟩
      have HY : Hid (Mi.length + (x.size + q.size) + kq.size ≤ 16777216 ∧ ni + 4 * (x.size + q.size) ≤ n + 4 * ak.size ∧ x.size + q.size ≤ ak.size ∧ x.wt + q.wt ≤ 1048576) := ⟨g3, g4, g5, g6⟩
      have HR1 := hide hR1
      have HKX := hide kx
      have HXO := hide (occ_len (rdK y) (B ++ rdS ck) (B ++ rdS ck))
      have HXN : Hid ((rdK y).nodes ≤ y.size) := (nodesK y.size y (Nat.le_refl _)).1
      obtain ⟨f1, f2, -, f6⟩ := HCC.out wr hKp.out.1
      have mel := me_reach ⟨fb, 0, none⟩
      have nal := na_reach ⟨fb, 0, none⟩
      clear hRd hinv g1 g2 g3 g4 g5 g6 hsw hc hxs hx hR1 hok hcy hck hy e1 e2 hxe w1 w3 w4 w5 w6 hsr hln hcn hsx kx xa xv x1 hFx hlh hlk hlf hlo ovi oai hCA zx
      subst hVx
      go_wp2_with fail
      go_region_held3 (fun V => V.cell? ⟨vb, 0, none⟩ = some (.iface 148 (.pointer (some ⟨fb, 0, none⟩))) ∧ V.cell? ⟨wr.heap.size, 0, none⟩ = some (.pointer (some ⟨b, o + i * 9, none⟩)) ∧ V.cell? ⟨b, o + i * 9 + 1, none⟩ = some (.slice ca cn cc))
        (first | with_reducible exact kk0 | with_reducible exact kk1)
        (first | (go_at_call 145; refine HCA.out.mono ?_; rintro e w9 ⟨⟨v9, rfl⟩, hT9⟩; have HT9 := hide hT9; have kk1 := HKV.out w9 hT9.kp; clear hT9) | fail)
      all_goals
        have hT := HT9.out.start HKX.out
        obtain ⟨⟨n1, oj, hn1, ho, hs⟩, hk9⟩ := hT
        have hkw : Kept (Off fb hb kb ob) W w9 := hKp.out.1.trans2 hk9 (fun b hb2 hx2 => Off.next hx2 hb2 hKp.out.2)
        have hoj : oj = ob ∨ ∃ b, oj = some b ∧ W.heap.size ≤ b := by
          rcases ho with ho | ⟨b, ho, hb2⟩
          · rw [ho]; exact hKp.out.2
          · exact .inr ⟨b, ho, Nat.le_trans hKp.out.1.size hb2⟩
        have HRn : Hid (Rd E (E 2) an B0 (some ⟨b, o, none⟩) (i + 1) q w9) := HR1.out.kept hk9 hzw (fun c hc => hFS.out.off hc)
        have HIn : Hid (adds (adds Mi ((rdK y).occ (B ++ rdS ck) (B ++ rdS ck)).flatten) ((rdA q).occ B B).flatten = adds M ((rdA ak).occ B B).flatten ∧ (rdA q).good ∧ (adds Mi ((rdK y).occ (B ++ rdS ck) (B ++ rdS ck)).flatten).length + q.size + kq.size ≤ 16777216 ∧ n1 + 4 * q.size ≤ n + 4 * ak.size ∧ q.size ≤ ak.size ∧ q.wt ≤ 1048576) := by
          have h1 := adds_len ((rdK y).occ (B ++ rdS ck) (B ++ rdS ck)).flatten Mi
          have h2 := HXO.out
          have h3 := HXN.out
          obtain ⟨h4, h5, h6, h9⟩ := HY.out
          obtain ⟨h7, h8⟩ := HSX.out
          exact ⟨HG1.out, HG2.out, by omega, by omega, by omega, by omega⟩
        have HSn := hide hs
        have HKn : Hid (Kept (Off fb hb kb ob) W w9 ∧ (oj = ob ∨ ∃ b, oj = some b ∧ W.heap.size ≤ b)) := ⟨hkw, hoj⟩
        clear hs hkw hoj ho hk9 hn1 kk0 kk1 mel nal
        go_wp2_with fail
        go_roundw
        case rel => exact ⟨i + 1, q, _, n1, oj, by go_num, by omega, HRn, HIn, HSn, HKn⟩
        case measure => simp [intOf]; omega
    · obtain ⟨rfl, rfl⟩ := hRd.out.done hi
      have hii : ¬ (i : Int) < i := by omega
      obtain ⟨g1, -, g3, g4, -, -⟩ := hinv.out
      rw [rdA_nil] at g1
      simp only [Fo.size] at g3 g4
      replace g1 : Mi = adds M ((rdA ak).occ B B).flatten := g1
      have hRk := HRK.out.kept hKp.out.1 (by omega) (fun c hc => (HF0.out.off hc))
      obtain ⟨f1, f2, f5, -⟩ := HCC.out wr hKp.out.1
      have hx1 := hkx.1
      have hx2 := hkx.2.1
      have hx3 := hkx.2.2
      have HG : Hid (∀ X, adds Mi X = adds M (((rdA ak).occ B B).flatten ++ X)) := fun X => by rw [g1, adds_append]
      have HG3 := hide g3
      have HG4 := hide g4
      have HRk := hide hRk
      clear g1 g3 g4 hinv hRd hRk
      go_wp2_with fail
      all_goals
        go_loopw [42] (fun s42 wr2 => ∃ (j : Nat) (r : Fo) (Mj : List ByteArray) (nj : Nat) (oj : Option Nat), s42 = .int .i64 j ∧ j ≤ k' ∧ Hid (Rd E (E 3) (k' + 1) B0 (some ⟨k0, k1, none⟩) (j + 1) r wr2) ∧ Hid (adds Mj ((rdK r).occ B B).flatten = adds Mi ((rdK kq).occ B B).flatten ∧ (rdK r).good ∧ Mj.length + r.size ≤ 16777216 ∧ nj + 4 * r.size ≤ n + 4 * ak.size + 4 * kq.size ∧ r.size ≤ kq.size ∧ r.wt ≤ 1048576) ∧ Hid (FS B0 fb hb kb f Mj nj oj wr2) ∧ Hid (Kept (Off fb hb kb ob) W wr2 ∧ (oj = ob ∨ ∃ b, oj = some b ∧ W.heap.size ≤ b))) (fun s42 _ => k' - (intOf s42).toNat)
        case atStart => exact ⟨0, kq, Mi, ni, oi, rfl, Nat.zero_le _, HRk, ⟨rfl, HGD.out.1, by have := HG3.out; omega, by have := HG4.out; omega, Nat.le_refl _, hm.2.1⟩, hFS, hKp⟩
        case round =>
          clear f1 f2 f5
          obtain ⟨j, r, Mj, nj, oj, rfl, hjn, hRd, hinv, hFS2, hKp2⟩ := hrel
          by_cases hj : j < k'
          · obtain ⟨x, q, b, o, rfl, hx, hbo, hb', hc, hxs, hR1⟩ := hRd.out.next (show j + 1 < k' + 1 by omega) (by decide)
            cases hbo
            have hjj : (j : Int) < k' := by omega
            obtain ⟨j1, hj1⟩ : ∃ j1, j1 = j + 1 := ⟨_, rfl⟩
            have hjj2 : (j1 : Int) < ((k' + 1 : Nat) : Int) := by omega
            have hjj4 : (j1 : Int) < (k' : Int) + 1 := by omega
            have hjj3 : (0 : Int) ≤ (j1 : Int) := by omega
            have hwn : IntKind.i64.wrap (1 + (j : Int)) = (j1 : Int) := by rw [IntKind.wrap_i64]; omega
            have hwn2 : IntKind.i64.wrap ((j : Int) + 1) = (j1 : Int) := by rw [IntKind.wrap_i64]; omega
            rw [← hj1] at hc
            obtain ⟨g1, g2, g3, g4, g5, g6⟩ := hinv.out
            rw [occK_app hx, List.flatten_cons, adds_append] at g1
            rw [goodK_app hx] at g2
            rw [Fo.app_size] at g3 g4 g5
            rw [Fo.app_wt] at g6
            have hzw : B0 ≤ wr.heap.size := Nat.le_trans hB0 hKp2.out.1.size
            have hok : Nd.Ok wr.drew (fun b => b < B0) ⟨k0, k1 + j1 * 7, x⟩ := Nd.Ok.kept (A := wr) ⟨hx, hc, hxs, hb'⟩ (Kept.drew (fun _ => True) wr) (fun b hb => ⟨trivial, by omega⟩)
            have HCA : Hid (Calls Try.prog 43 #[.pointer (some ⟨fb, 0, none⟩), .pointer (some ⟨k0, k1 + j1 * 7, none⟩)] wr.drew fun e W' => (∃ v, e = .returned v) ∧ FT B0 fb hb kb f (adds Mj ((rdK x).occ B B).flatten) (nj + 4 * x.size) oj wr.drew W') :=
              HIH.out B0 fb hb kb f B Mj nj Bd oj ⟨k0, k1 + j1 * 7, x⟩ wr.drew ⟨by show x.size ≤ m; omega, by show x.wt ≤ _; omega⟩ (by show x.size + _ ≤ _; omega) (by show Bd + x.size ≤ _; omega) (by show nj + 4 * x.size ≤ _; omega) hok g2.1 (hFS2.out.kept (Kept.drew (fun _ => True) wr) trivial trivial trivial (fun _ _ => trivial)) HFF.out HFB.out
            have HC3 : Hid (∀ V, Kept (Off fb hb kb ob) W V → V.cell? ⟨vb, 0, none⟩ = some (.iface 148 (.pointer (some ⟨fb, 0, none⟩))) ∧ V.cell? ⟨cb, 0, none⟩ = some (.pointer (some ⟨db, do_, none⟩)) ∧ V.cell? ⟨db, do_ + 5, none⟩ = some (.slice (some ⟨k0, k1, none⟩) (k' + 1) kc)) := fun V k => by obtain ⟨a1, a2, a3, -⟩ := HCC.out V k; exact ⟨a1, a2, a3⟩
            have kk0 := HC3.out wr.drew (hKp2.out.1.trans (Kept.drew _ _))
            have mel := me_look ⟨fb, 0, none⟩
            have nal := na_look ⟨fb, 0, none⟩
            have HJ1 := hide hj1
            have HG1 := hide g1
            have HG2 := hide g2.2
            have HX : Hid (x.size + q.size ≤ kq.size ∧ x.wt + q.wt ≤ 1048576) := ⟨g5, g6⟩
            have HY : Hid (Mj.length + (x.size + q.size) ≤ 16777216 ∧ nj + 4 * (x.size + q.size) ≤ n + 4 * ak.size + 4 * kq.size) := ⟨g3, g4⟩
            have HR1 := hide hR1
            have HXO := hide (occ_len (rdK x) B B)
            have HXN : Hid ((rdK x).nodes ≤ x.size) := (nodesK x.size x (Nat.le_refl _)).1
            clear hRd hinv g1 g2 g3 g4 g5 g6 hc hxs hx hR1 hok hj1
            go_wp2_with fail
            go_region_held3 (fun V => V.cell? ⟨vb, 0, none⟩ = some (.iface 148 (.pointer (some ⟨fb, 0, none⟩))) ∧ V.cell? ⟨cb, 0, none⟩ = some (.pointer (some ⟨db, do_, none⟩)) ∧ V.cell? ⟨db, do_ + 5, none⟩ = some (.slice (some ⟨k0, k1, none⟩) (k' + 1) kc))
              (first | with_reducible exact kk0 | with_reducible exact kk1)
              (first | (go_at_call 43; refine HCA.out.mono ?_; rintro e w9 ⟨⟨v9, rfl⟩, hT9⟩; have HT9 := hide hT9; have kk1 := HC3.out w9 (hKp2.out.1.trans2 ((Kept.drew _ _).trans hT9.kp) (fun b hb2 hx2 => Off.next hx2 hb2 hKp2.out.2)); clear hT9) | fail)
            obtain ⟨⟨n1, oj2, hn1, ho, hs⟩, hk9⟩ := HT9.out
            have hkw : Kept (Off fb hb kb ob) W w9 := hKp2.out.1.trans2 ((Kept.drew _ _).trans hk9) (fun b hb2 hx2 => Off.next hx2 hb2 hKp2.out.2)
            have hoj : oj2 = ob ∨ ∃ b, oj2 = some b ∧ W.heap.size ≤ b := by
              rcases ho with ho | ⟨b, ho, hb2⟩
              · rw [ho]; exact hKp2.out.2
              · exact .inr ⟨b, ho, Nat.le_trans hKp2.out.1.size hb2⟩
            have HRn : Hid (Rd E (E 3) (k' + 1) B0 (some ⟨k0, k1, none⟩) (j + 1 + 1) q w9) := HR1.out.kept ((Kept.drew (Off fb hb kb oj) wr).trans hk9) hzw (fun c hc => hFS2.out.off hc)
            have HIn : Hid (adds (adds Mj ((rdK x).occ B B).flatten) ((rdK q).occ B B).flatten = adds Mi ((rdK kq).occ B B).flatten ∧ (rdK q).good ∧ (adds Mj ((rdK x).occ B B).flatten).length + q.size ≤ 16777216 ∧ n1 + 4 * q.size ≤ n + 4 * ak.size + 4 * kq.size ∧ q.size ≤ kq.size ∧ q.wt ≤ 1048576) := by
              have h1 := adds_len ((rdK x).occ B B).flatten Mj
              have h2 := HXO.out
              have h3 := HXN.out
              obtain ⟨h4, h7⟩ := HX.out
              obtain ⟨h5, h6⟩ := HY.out
              exact ⟨HG1.out, HG2.out, by omega, by omega, by omega, by omega⟩
            have HSn := hide hs
            have HKn : Hid (Kept (Off fb hb kb ob) W w9 ∧ (oj2 = ob ∨ ∃ b, oj2 = some b ∧ W.heap.size ≤ b)) := ⟨hkw, hoj⟩
            clear hs hkw hoj ho hk9 hn1 kk0 kk1 mel nal
            go_wp2_with fail
            go_roundw
            case rel => exact ⟨j + 1, q, _, n1, oj2, by rw [HJ1.out], by omega, HRn, HIn, HSn, HKn⟩
            case measure => have h9 := HJ1.out; simp [intOf]; omega
          · obtain ⟨rfl, hjk⟩ := hRd.out.done (show ¬ j + 1 < k' + 1 by omega)
            have hjj : ¬ (j : Int) < k' := by omega
            obtain ⟨g1, -, -, g4, -, -⟩ := hinv.out
            rw [rdK_nil] at g1
            have HE : Hid (FT B0 fb hb kb f (adds M (((rdA ak).occ B B).flatten ++ ((rdK kq).occ B B).flatten)) (n + 4 * ak.size + 4 * kq.size) ob W wr) := by
              refine ⟨⟨nj, oj, by simp only [Fo.size] at g4; omega, hKp2.out.2, ?_⟩, hKp2.out.1⟩
              rw [← HG.out, ← g1]
              exact hFS2.out
            clear g1 g4 hinv hRd hjk
            go_wp2_with fail
            go_end0
            exact ⟨⟨_, rfl⟩, HE.out⟩

end Go.Proofs.Ytmpnbaebdghopaa
