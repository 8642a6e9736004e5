import Derived.Test.YtjlefdalobgdfaaAn
namespace Go.Proofs.Ytjlefdalobgdfaa
open Go.RowKit Go.Joins Go.MapKept Go.ChangeMaps

theorem run_makeMap95 (w : World) : (Instr.makeMap 95 none).run Try.prog w = .ok (.map (some w.heap.size)) (w.alloc (.map #[] 0)) := run_makeMap ..

theorem ap_one (L : List Bd) (k ix : Int) (nm : ByteArray) (a : Option Addr) (cap : Nat) (ks : Fo) : ∃ k' ix' nm' a' cap' ks', (Fo.cons k ix nm a cap ks .nil).ap L = .cons k' ix' nm' a' cap' ks' .nil := by
  simp only [Fo.ap]
  cases sb L k ix with
  | some e => exact ⟨_, _, _, _, _, _, rfl⟩
  | none => exact ⟨_, _, _, _, _, _, rfl⟩

/-- What Apply answers. -/
def ApP (L : List Bd) (k ix : Int) (nm : ByteArray) (ks : Fo) (W W' : World) (v : Value) : Prop :=
  ∃ d : Nd, v = d.v ∧ d.fo.sim (resA L k ix nm ks) ∧ d.Ok W' (fun c => W.heap.size ≤ c ∧ c < W'.heap.size) ∧ (blk d.a d.ks.len ++ d.ks.inn).Nodup ∧ Live W' (blk d.a d.ks.len ++ d.ks.inn) ∧ Below W.heap.size W W'

theorem ApP.zero {L : List Bd} {k ix : Int} {nm : ByteArray} {ks : Fo} {W V : World} (h : ¬ okA L k ix nm ks) (hb : Below W.heap.size W V) : ApP L k ix nm ks W V (.agg #[.int .i64 0, .int .i64 0, .string ⟨#[]⟩, .slice none 0 0]) :=
  ⟨⟨0, 0, ⟨#[]⟩, none, 0, .nil⟩, rfl, by rw [resA_neg h]; exact ⟨rfl, rfl, rfl, trivial, trivial⟩, ⟨by show (Lit.int .i64 0).wf = true; decide, by show (Lit.int .i64 0).wf = true; decide, by show (0 : Nat) ≤ maxLen; exact Nat.zero_le _, ⟨Nat.le_refl _, Nat.zero_le _, fun h => by simp [Fo.len] at h⟩⟩, by simp [blk, Fo.inn], fun c hc => by simp [blk, Fo.inn] at hc, hb⟩

theorem AqI.start {W w : World} {M1 M2 root : Nat} {tF : Fo} {hi ho : Nat → Prop} {env1 : List (Int × Nat)} (hr : RdL hi ho env1 w [root] tF) (rs : RdS hi ho w M1 env1) (vm : VM w M2 []) (hm1 : W.heap.size ≤ M1) (hm2 : W.heap.size ≤ M2) (hn : M1 ≠ M2) (hl : ∀ f, hi f → W.heap.size ≤ f) (kn : ∀ y, (getE y env1).isSome → y ∈ tF.vs) (be : Below W.heap.size W w) : AqI W w M1 M2 root tF hi ho env1 [] (fun _ => False) (fun _ => False) [] [] :=
  ⟨rs.rd.vm, rs.rd.zr, hr, fun x p hx => by
    obtain ⟨h1, h2⟩ := rs.rd.ok _ (getE_mem hx)
    exact ⟨h1, h2.ty, h2.c1, h2.c2, h2.c3, h2.c4, .inl ⟨rfl, h2.ab⟩⟩, ⟨⟨vm, fun x hx => (by cases hx), fun f hf => hf.elim⟩, fun b hb => hb.elim⟩, fun f hf => hf.elim, rs.ro, kn, List.nodup_nil, fun x hx => (by cases hx), hl, fun f hf => hf.elim, hm1, hm2, hn, be⟩

theorem AqI.mm {W wr : World} {M1 M2 root : Nat} {tF : Fo} {lo ro hi ho : Nat → Prop} {env1 env2 : List (Int × Nat)} {A : List Bd} {X : List Int} (h : AqI W wr M1 M2 root tF lo ro env1 A hi ho env2 X) : MM (fun f => lo f ∨ hi f) wr := fun f k ix nm a cap qs ks hl _ _ _ => by
  have hz : Ty wr f 103 ∧ wr.cell? ⟨f, 5, none⟩ = some (.int .i64 0) ∧ wr.cell? ⟨f, 6, none⟩ = some (.int .i64 0) ∧ wr.cell? ⟨f, 7, none⟩ = some (.int .i64 0) := by
    rcases hl with hl | hl
    · exact h.zr f hl
    · exact h.r2.rd.zr f hl
  exact ⟨0, 0, 0, hz.2.1, hz.2.2.1, hz.2.2.2, .inl rfl⟩

set_option maxHeartbeats 4000000 in
set_option maxRecDepth 100000 in
theorem iapply (ba : Option Addr) (bn bc : Nat) (L : List Bd) (k ix : Int) (nm : ByteArray) (a : Option Addr) (cap : Nat) (ks : Fo) (W : World) (hbl : BL W W.heap.size ba bn bc L) (hs : ks.Sl W (fun b => b < W.heap.size) a cap) (hk : (Lit.int .i64 k).wf = true) (hix : (Lit.int .i64 ix).wf = true) (hnm : nm.size ≤ maxLen) (hsz : nm.size + ks.tot ≤ 1048576) (hbs : ∀ x ∈ L, x.d.nm.size + x.d.ks.tot ≤ 1048576) :
    Calls Try.prog 25 #[.slice ba bn bc, .agg #[.int .i64 k, .int .i64 ix, .string nm, .slice a ks.len cap]] W fun e W' => ∃ v, e = .returned v ∧ ApP L k ix nm ks W W' v := by
  obtain ⟨W0, hW0⟩ : ∃ V, (W.alloc (.cells #[.int .i64 k, .int .i64 ix, .string nm, .slice a ks.len cap] 29)).alloc (.cells #[.int .i64 0, .int .i64 0, .string ⟨#[]⟩, .slice none 0 0] 29) = V := ⟨_, rfl⟩
  have b0 := below_alloc2 W (.cells #[.int .i64 k, .int .i64 ix, .string nm, .slice a ks.len cap] 29) (.cells #[.int .i64 0, .int .i64 0, .string ⟨#[]⟩, .slice none 0 0] 29)
  have q4 := Box4.new (W.alloc (.cells #[.int .i64 k, .int .i64 ix, .string nm, .slice a ks.len cap] 29)) (.int .i64 0) (.int .i64 0) (.string ⟨#[]⟩) (.slice none 0 0) 29
  have q2 := (Box4.new W (.int .i64 k) (.int .i64 ix) (.string nm) (.slice a ks.len cap) 29).alloc (.cells #[.int .i64 0, .int .i64 0, .string ⟨#[]⟩, .slice none 0 0] 29)
  rw [World.size_alloc] at q4
  have hz : ((W.alloc (.cells #[.int .i64 k, .int .i64 ix, .string nm, .slice a ks.len cap] 29)).alloc (.cells #[.int .i64 0, .int .i64 0, .string ⟨#[]⟩, .slice none 0 0] 29)).heap.size = W.heap.size + 1 + 1 := by simp
  rw [hW0] at b0 q4 q2 hz
  have k0 : Kept (fun _ => True) W W0 := kt b0
  have hst : ks.size ≤ ks.tot := ks.size_le
  have HF1 : Hid (Calls Try.prog 12 #[.agg #[.int .i64 k, .int .i64 ix, .string nm, .slice a ks.len cap]] W0 fun e W' => e = .returned (.bool (fltB k ix nm ks)) ∧ Below W0.heap.size W0 W') := by
    have h := ifault k ix nm a cap ks W0 hk hix hnm ((hs.kept k0 (fun c hc => ⟨trivial, hc⟩)).mono (fun c hc => by omega)) (by omega)
    unfold nodeV at h
    exact h
  have HK0 := hide k0
  have HB0 := hide b0
  have HQ4 := hide q4
  have HQ2 := hide q2
  have HZ := hide hz
  have HW0 := hide hW0
  have HBL := hide hbl
  have HS := hide hs
  obtain ⟨-, d0, di, d1, d2, -, -, -, -⟩ := id q2
  clear b0 q4 q2 hz hW0 k0 hbl hs
  have HZERO : Hid (∀ (V V' : World), Kept (fun c => c < W0.heap.size) W0 V → Kept (fun c => c ≠ W.heap.size + 1) V V' → ¬ okA L k ix nm ks → ApP L k ix nm ks W V' (.agg #[.int .i64 0, .int .i64 0, .string ⟨#[]⟩, .slice none 0 0])) := fun V V' kV kV' h =>
    ApP.zero h (Below.kept (Below.kept HB0.out kV (fun c hc => by have := HZ.out; omega) (Nat.le_refl _)) kV' (fun c hc => by omega) (Nat.le_refl _))
  cases hq : fltB k ix nm ks with
  | true =>
    have HNO : Hid (¬ okA L k ix nm ks) := fun h => absurd (hq.symm.trans h.1) (by simp)
    rw [hq] at HF1
    go_enter Try.func25, Try.ntmps25
    go_upto_region 1 with fail
    rw [HW0.out]
    clear HW0
    go_wp2_with fail
    refine HF1.out.mono ?_
    rintro e w1 ⟨rfl, b1⟩
    have k1 : Kept (fun _ => True) W0 w1 := kt b1
    obtain ⟨-, p0, pi, p1, p2, f0, fi, f1, f2⟩ := HQ4.out.kept k1 trivial
    have HK1 := hide k1
    clear b1 k1
    go_wp2_with fail
    refine bodyPost_ret (v := .agg #[.int .i64 0, .int .i64 0, .string ⟨#[]⟩, .slice none 0 0]) (by simp [results, Try.results25, go_sem, p0, pi, p1, p2]) rfl ⟨_, rfl, HZERO.out _ _ (HK1.out.mono (fun _ _ _ => trivial)) ?_ HNO.out⟩
    exact (((Kept.setCell _ _ _ _ (by simp)).trans (Kept.setCell _ _ _ _ (by simp))).trans (Kept.setCell _ _ _ _ (by simp))).trans (Kept.setCell _ _ _ _ (by simp))
  | false =>
    have HTG := hide (fltB_good hq)
    rw [hq] at HF1
    go_enter Try.func25, Try.ntmps25
    go_upto_region 1 with fail
    rw [HW0.out]
    clear HW0
    go_wp2_with fail
    refine HF1.out.mono ?_
    rintro e w1 ⟨rfl, b1⟩
    have HB1 := hide b1
    have hmm1 := run_makeMap95 w1
    have hmm2 := run_makeMap95 (w1.alloc (.map #[] 0))
    rw [World.size_alloc] at hmm2
    obtain ⟨w2, hw2⟩ : ∃ w2, (w1.alloc (.map #[] 0)).alloc (.map #[] 0) = w2 := ⟨_, rfl⟩
    have k12 : Kept (fun _ => True) w1 w2 := by rw [← hw2]; exact (Kept.alloc _ _ _).trans (Kept.alloc _ _ _)
    have vm1 : VM w2 w1.heap.size [] := by rw [← hw2]; exact (VM.start w1).kept (Kept.alloc (fun _ => True) _ _) trivial
    have vm2 : VM w2 (w1.heap.size + 1) [] := by
      have h := VM.start (w1.alloc (.map #[] 0))
      rw [World.size_alloc] at h
      rw [← hw2]
      exact h
    have hz1 : W0.heap.size ≤ w1.heap.size := b1.size
    have k02 : Kept (fun _ => True) W0 w2 := (kt b1).trans k12
    obtain ⟨-, d0, di, d1, d2, -, -, -, -⟩ := HQ2.out.kept k02 trivial
    have HRD : Hid (Calls Try.prog 57 #[.map (some w1.heap.size), .agg #[.int .i64 k, .int .i64 ix, .string nm, .slice a ks.len cap]] w2 fun e W' => ∃ p, e = .returned (.pointer (some ⟨p, 0, none⟩)) ∧ RdP (fun _ => False) (fun _ => False) w1.heap.size [] (.cons k ix nm a cap ks .nil) w2 W' p) := by
      have h := read_any _ ks (Nat.lt_succ_self _) k ix nm a cap 1 W.heap.size w1.heap.size (fun _ => False) (fun _ => False) [] w2 (by have := HZ.out; omega) hsz (HS.out.kept (HK0.out.trans k02) (fun c hc => ⟨trivial, hc⟩)) HTG.out.1 ⟨⟨vm1, fun x hx => (by cases hx), fun f hf => hf.elim⟩, fun b hb => hb.elim⟩
      unfold nodeV at h
      exact h
    have HV2 := hide vm2
    have HK02 := hide k02
    have HK12 := hide k12
    clear b1 k12 vm1 vm2 k02 HF1
    go_wp2_with (first | rw [hw2])
    refine HRD.out.mono ?_
    rintro e w3 ⟨root, rfl, lo, ro, env1, rl3, ex3, rs3, mh3, mo3, k23, kn3⟩
    have HBW : Hid (Below W.heap.size W w1) := HB0.out.trans (HB1.out.mono (by have := HZ.out; omega))
    have HQ5 : Hid (Box4 w1 (W.heap.size + 1) (.int .i64 0) (.int .i64 0) (.string ⟨#[]⟩) (.slice none 0 0)) := HQ4.out.kept (kt (S := fun _ => True) HB1.out) trivial
    have hz0 := HZ.out
    have hz2 := HK12.out.size
    have hI0 : AqI w1 w3 w1.heap.size (w1.heap.size + 1) root (.cons k ix nm a cap ks .nil) lo ro env1 [] (fun _ => False) (fun _ => False) [] [] :=
      AqI.start rl3 rs3 (HV2.out.kept k23 (by omega)) (Nat.le_refl _) (by omega) (by omega) (fun f hf => by rcases mh3.nw f hf with h | h; exact h.elim; omega) (fun y hy => by rcases kn3 y hy with h | h; cases h; exact h) (((HK12.out.mono (fun _ _ _ => trivial)).trans k23).below (fun b hb => by omega) (Nat.le_refl _))
    have HI0 := hide hI0
    have HZERO : Hid (∀ (V V' : World), Below w1.heap.size w1 V → Kept (fun c => c ≠ W.heap.size + 1) V V' → ¬ okA L k ix nm ks → ApP L k ix nm ks W V' (.agg #[.int .i64 0, .int .i64 0, .string ⟨#[]⟩, .slice none 0 0])) := fun V V' bV kV' h =>
      ApP.zero h (Below.kept (HBW.out.trans (bV.mono (by omega))) kV' (fun c hc => by omega) (Nat.le_refl _))
    have hn' : bn ≤ 9223372036854775807 := by have h2 := HBL.out.le; have h3 := HBL.out.mx; simp only [maxLen] at h3; omega
    have HZ01 : Hid (W0.heap.size ≤ w1.heap.size) := hz1
    have HZ02 : Hid (W0.heap.size = W.heap.size + 1 + 1) := hz0
    have HBS := hide hbs
    have HHQ := hide hq
    clear hI0 rl3 ex3 rs3 mh3 mo3 k23 kn3 hmm1 hmm2 hw2 HV2 HK02 HK12 HRD hz1 hz2 hz0 HZ hbs hq HQ4 HQ2 HB1
    go_wp2_with fail
    go_loopw [8, 26] (fun s8 s26 wr => ∃ (i sm : Nat) (A B : List Bd) (hi ho : Nat → Prop) (env2 : List (Int × Nat)) (X : List Int), s8 = .int .i64 sm ∧ s26 = .int .i64 i ∧ i ≤ bn ∧ sm ≤ 20000 ∧ Hid (L = A ++ B ∧ A.length = i ∧ allB A = true ∧ (X.map (szL L)).sum = sm) ∧ Hid (AqI w1 wr w1.heap.size (w1.heap.size + 1) root (.cons k ix nm a cap ks .nil) lo ro env1 A hi ho env2 X)) (fun _ s26 _ => bn - (intOf s26).toNat)
    case atStart => exact ⟨0, 0, [], L, _, _, [], [], rfl, rfl, Nat.zero_le _, Nat.zero_le _, ⟨rfl, rfl, rfl, rfl⟩, HI0.out⟩
    case round =>
      obtain ⟨i, sm, A, B, hi, ho, env2, X, rfl, rfl, hin, hsm, HA, HI⟩ := hrel
      have HBE : Hid (Below W.heap.size W wr) := HBW.out.trans (HI.out.be.mono (by have h1 := HZ01.out; have h2 := HZ02.out; omega))
      cases B with
      | nil =>
        have hie : i = bn := by have h1 := HA.out; have h2 := HBL.out.ln; rw [h1.1, List.append_nil] at h2; omega
        subst hie
        have hii : ¬ (i : Int) < i := by omega
        obtain rfl : L = A := by have := HA.out.1; rwa [List.append_nil] at this
        obtain ⟨wu, hwu⟩ : ∃ wu, wr.alloc (.cells #[.int .i64 1, .int .i64 0] 105) = wu := ⟨_, rfl⟩
        have kU : Kept (fun _ => True) wr wu := by rw [← hwu]; exact Kept.alloc _ _ _
        have hun : wu.heap[wr.heap.size]? = some (.cells #[.int .i64 1, .int .i64 0] 105) := by rw [← hwu]; exact (MapKept.heap_alloc wr _).1
        have hIU := HI.out.kept kU
        obtain ⟨k', ix', nm', a', cap', ks', hap⟩ := ap_one L k ix nm a cap ks
        have nv := hIU.rl.ap hIU.r2.rd.ok hIU.ov
        rw [hap] at nv
        have hme := mea_any wr.heap.size (fun f => lo f ∨ hi f) _ ks' (Nat.lt_succ_self _) k' ix' nm' a' cap' root 200 wu (Nat.le_refl _) (cell_of hun rfl) ⟨_, hun⟩ hIU.mm nv
        rw [show ((200 : Nat) : Int) = 200 from rfl] at hme
        have hwfL : ∀ x ∈ L, x.d.fo.wfs := fun x hx => by
          obtain ⟨j, hj⟩ := List.getElem?_of_mem hx
          obtain ⟨b, o, -, -, hg⟩ := HBL.out.at_ (by have := (List.getElem?_eq_some_iff.1 hj).1; have := HBL.out.ln; omega)
          have h := (hg j x hj).at_
          exact ⟨h.wf, h.wi, h.nm, h.sl.wfs, trivial⟩
        have hwf := Fo.ap_wfs hwfL (.cons k ix nm a cap ks .nil) ⟨hk, hix, hnm, HS.out.wfs, trivial⟩
        rw [hap] at hwf
        have HOK : Hid (okA L k ix nm ks ↔ (1 + ks'.dep ≤ 200 ∧ 1 + ks'.size ≤ 20000)) := by
          have g1 := (gd_cap L k ix nm a cap ks 1)
          have g2 := gd_dep (allB_mem HA.out.2.2.1) (.cons k ix nm a cap ks .nil) 1 (by omega)
          have g3 := Fo.cn_eq L (.cons k ix nm a cap ks .nil)
          rw [hap] at g2 g3
          simp only [Fo.dep, Fo.size] at g2 g3
          unfold okA
          rw [← g1.1, ← g1.2.1, g2, g3]
          exact ⟨fun h => ⟨by omega, by omega⟩, fun h => ⟨HHQ.out, HA.out.2.2.1, by omega, by omega⟩⟩
        have HME := hide hme
        have HNV := hide nv
        have HWF := hide hwf
        have HAP := hide hap
        have HBU : Hid (Below w1.heap.size w1 wu) := hIU.be
        have HLO : Hid (∀ f, lo f ∨ hi f → w1.heap.size ≤ f) := fun f hf => hf.elim (hIU.l1 f) (hIU.l2 f)
        have HWU := hide hwu
        clear hme nv hwf hap hIU kU hun hwfL hwu
        go_wp2_with fail
        rw [HWU.out]
        refine HME.out.mono ?_
        rintro e w5 ⟨bb, rfl, s5, mm5, k5, t3, t4⟩
        have hz0 := HZ02.out
        have hz1 := HZ01.out
        have HB5 : Hid (Below w1.heap.size w1 w5) := Below.kept HBU.out k5 (fun c hc h => by have := HLO.out c h; omega) (Nat.le_refl _)
        obtain ⟨-, p0, pi, p1, p2, f0, fi, f1, f2⟩ := HQ5.out.kept (kt (S := fun _ => True) HB5.out) trivial
        cases bb with
        | false =>
          have HNO : Hid (¬ okA L k ix nm ks) := fun h => t4 rfl (HOK.out.1 h)
          clear s5 mm5 k5 t3 t4 HME
          go_wp2_with fail
          refine bodyPost_ret (v := .agg #[.int .i64 0, .int .i64 0, .string ⟨#[]⟩, .slice none 0 0]) (by simp [results, Try.results25, go_sem, p0, pi, p1, p2]) rfl ⟨_, rfl, HZERO.out _ _ HB5.out ?_ HNO.out⟩
          exact (((Kept.setCell _ _ _ _ (by simp)).trans (Kept.setCell _ _ _ _ (by simp))).trans (Kept.setCell _ _ _ _ (by simp))).trans (Kept.setCell _ _ _ _ (by simp))
        | true =>
          obtain ⟨t5, t6, -⟩ := t3 rfl
          have HOK2 : Hid (okA L k ix nm ks) := HOK.out.2 ⟨t5, t6⟩
          have HOUT := hide (out_any (fun f => lo f ∨ hi f) _ ks' (Nat.lt_succ_self _) k' ix' nm' a' cap' root w5 (by omega) HWF.out (HNV.out.sk s5))
          clear s5 mm5 k5 t3 t4 HME
          go_wp2_with fail
          refine HOUT.out.mono ?_
          rintro e w6 ⟨v', rfl, d, rfl, hd1, hd2, hd3, hd4, hb6⟩
          unfold Nd.v nodeV
          obtain ⟨-, p0, pi, p1, p2, f0, fi, f1, f2⟩ := HQ5.out.kept ((kt (S := fun _ => True) HB5.out).trans (kt hb6)) trivial
          have HD : Hid (d.fo.sim (.cons k' ix' nm' a' cap' ks' .nil) ∧ d.Ok w6 (fun c => w5.heap.size ≤ c ∧ c < w6.heap.size) ∧ (blk d.a d.ks.len ++ d.ks.inn).Nodup ∧ Live w6 (blk d.a d.ks.len ++ d.ks.inn) ∧ Below w1.heap.size w1 w6) := ⟨hd1, hd2, hd3, hd4, HB5.out.trans (hb6.mono HB5.out.size)⟩
          have hz5 := HB5.out.size
          clear hd1 hd2 hd3 hd4 hb6
          go_wp2_with fail
          refine bodyPost_ret (v := .agg #[.int .i64 d.k, .int .i64 d.ix, .string d.nm, .slice d.a d.ks.len d.cap]) (by simp [results, Try.results25, go_sem, p0, pi, p1, p2]) rfl ⟨_, rfl, d, rfl, ?_, ?_⟩
          · rw [resA_pos HOK2.out]
            refine Fo.sim.trans ?_ (gd_cap L k ix nm a cap ks 1).2.2
            rw [HAP.out]
            exact HD.out.1
          · refine (fun (V : World) (kV : Kept (fun c => c ≠ W.heap.size + 1) w6 V) => (?_ : d.Ok V (fun c => W.heap.size ≤ c ∧ c < V.heap.size) ∧ (blk d.a d.ks.len ++ d.ks.inn).Nodup ∧ Live V (blk d.a d.ks.len ++ d.ks.inn) ∧ Below W.heap.size W V)) _ ?_
            · have := kV.size
              have hall := HD.out.2.1.sl.all_of
              exact ⟨HD.out.2.1.keep (fun c h => ⟨by omega, by omega⟩) (fun p hp v hv => (kV.cell (p := p) hp.2 (by have := hp.1; omega)).trans hv), HD.out.2.2.1, fun c hc j => (kV.frozen (p := ⟨c, j, none⟩) (hall c hc).2 (by have := (hall c hc).1; show c ≠ _; omega)).trans (HD.out.2.2.2.1 c hc j), Below.kept (HBW.out.trans (HD.out.2.2.2.2.mono (by omega))) kV (fun c hc => by omega) (Nat.le_refl _)⟩
            · exact (((Kept.setCell _ _ _ _ (by simp)).trans (Kept.setCell _ _ _ _ (by simp))).trans (Kept.setCell _ _ _ _ (by simp))).trans (Kept.setCell _ _ _ _ (by simp))
      | cons x B =>
        have hi' : i < bn := by have h1 := HA.out; have h2 := HBL.out.ln; rw [h1.1, List.length_append, List.length_cons] at h2; omega
        have hii : (i : Int) < bn := by omega
        have hx : L[i]? = some x := by rw [HA.out.1, ← HA.out.2.1]; simp
        have hxm : x ∈ L := List.mem_of_getElem? hx
        obtain ⟨b, o, rfl, hb, hg⟩ := (HBL.out.kept (kt (S := fun _ => True) HBE.out) (fun _ _ => trivial) (Nat.le_refl _)).at_ (by omega)
        have hgx := hg i x hx
        have y := hgx.c
        have y0 : wr.cell? ⟨b, o + i * 5 + 1, none⟩ = some (.int .i64 x.d.k) := hgx.at_.c0
        have y1 : wr.cell? ⟨b, o + i * 5 + 2, none⟩ = some (.int .i64 x.d.ix) := hgx.at_.ci
        have y2 : wr.cell? ⟨b, o + i * 5 + 3, none⟩ = some (.string x.d.nm) := hgx.at_.c1
        have y3 : wr.cell? ⟨b, o + i * 5 + 4, none⟩ = some (.slice x.d.a x.d.ks.len x.d.cap) := hgx.at_.c2
        have kA : Kept (fun _ => True) wr (wr.alloc (.cells #[.int .i64 x.id, .int .i64 x.d.k, .int .i64 x.d.ix, .string x.d.nm, .slice x.d.a x.d.ks.len x.d.cap] 92)) := Kept.alloc _ _ _
        have hun := (MapKept.heap_alloc wr (.cells #[.int .i64 x.id, .int .i64 x.d.k, .int .i64 x.d.ix, .string x.d.nm, .slice x.d.a x.d.ks.len x.d.cap] 92)).1
        obtain ⟨wa, hwa⟩ : ∃ wa, wr.alloc (.cells #[.int .i64 x.id, .int .i64 x.d.k, .int .i64 x.d.ix, .string x.d.nm, .slice x.d.a x.d.ks.len x.d.cap] 92) = wa := ⟨_, rfl⟩
        rw [hwa] at kA hun
        have hbl : wr.heap.size < wa.heap.size := (Array.getElem?_eq_some_iff.1 hun).1
        have HU : Hid (∀ V, Kept (fun _ => True) wa V → V.cell? ⟨wr.heap.size, 0, none⟩ = some (.int .i64 x.id) ∧ V.cell? ⟨wr.heap.size, 1, none⟩ = some (.int .i64 x.d.k) ∧ V.cell? ⟨wr.heap.size, 2, none⟩ = some (.int .i64 x.d.ix) ∧ V.cell? ⟨wr.heap.size, 3, none⟩ = some (.string x.d.nm) ∧ V.cell? ⟨wr.heap.size, 4, none⟩ = some (.slice x.d.a x.d.ks.len x.d.cap)) := fun V kV => by
          have hc : ∀ j, V.cell? ⟨wr.heap.size, j, none⟩ = wa.cell? ⟨wr.heap.size, j, none⟩ := fun j => kV.cell (p := ⟨wr.heap.size, j, none⟩) hbl trivial
          exact ⟨(hc 0).trans (cell_of hun rfl), (hc 1).trans (cell_of hun rfl), (hc 2).trans (cell_of hun rfl), (hc 3).trans (cell_of hun rfl), (hc 4).trans (cell_of hun rfl)⟩
        have hzW : W.heap.size ≤ wr.heap.size := HBE.out.size
        have hslA : x.d.ks.Sl wa (fun c => c < W.heap.size) x.d.a x.d.cap := hgx.at_.sl.kept kA (fun c hc => ⟨trivial, by omega⟩)
        have hxt := HBS.out x hxm
        have hxs : x.d.ks.size ≤ x.d.ks.tot := x.d.ks.size_le
        have hts := tsize x.d.k x.d.ix x.d.nm x.d.a x.d.cap x.d.ks wa hgx.at_.wf hgx.at_.wi hgx.at_.nm (hslA.mono (fun c hc => by omega)) (by omega)
        unfold nodeV at hts
        have HTS := hide hts
        have HSA := hide hslA
        have HIA := hide (HI.out.kept kA)
        have HWA := hide hwa
        have HM := hide hxm
        have HX2 : Hid (L = (A ++ [x]) ++ B ∧ (A ++ [x]).length = i + 1) := ⟨by rw [HA.out.1]; simp, by simp [HA.out.2.1]⟩
        obtain ⟨u0, u1, u2, u3, u4⟩ := HU.out wa (Kept.refl _ _)
        clear hts hslA kA hun hwa hgx hg hxm hx
        go_upto_region 9 with fail
        rw [HWA.out]
        clear HWA y y0 y1 y2 y3
        go_wp2_with fail
        refine HTS.out.mono ?_
        rintro e w2 ⟨b2, t1, t2⟩
        have HK2 : Hid (Kept (fun _ => True) wa w2) := kt b2
        have HI2 := hide (HIA.out.kept HK2.out)
        obtain ⟨v0, v1, v2, v3, v4⟩ := HU.out w2 HK2.out
        obtain ⟨-, p0, pi, p1, p2, f0, fi, f1, f2⟩ := HQ5.out.kept (kt (S := fun _ => True) HI2.out.be) trivial
        clear b2 u0 u1 u2 u3 u4 HTS
        by_cases hT : TG x.d.k x.d.ix x.d.nm x.d.ks
        · obtain rfl := t1 hT
          have HT := hide hT
          have HA2 : Hid (allB (A ++ [x]) = true) := by unfold Hid; rw [allB_app, HA.out.2.2.1]; simp [allB, fltB, hT]
          clear t1 t2 hT
          cases hg : getE x.id env1 with
          | none =>
            have hl := HI2.out.vm.miss x.id hg true
            have HN : Hid (AqI w1 w2 w1.heap.size (w1.heap.size + 1) root (.cons k ix nm a cap ks .nil) lo ro env1 (A ++ [x]) hi ho env2 X) := HI2.out.skip x (.inl hg)
            go_wp2_with fail
            go_roundw
            case rel => exact ⟨i + 1, sm, A ++ [x], B, hi, ho, env2, X, rfl, by go_num, by omega, hsm, ⟨HX2.out.1, HX2.out.2, HA2.out, HA.out.2.2.2⟩, HN.out⟩
            case measure => simp [intOf]; omega
          | some p =>
            have hl := HI2.out.vm.hit x.id hg true
            have hov := HI2.out.ov _ _ hg
            rcases hov.ob with ⟨hn0, c0⟩ | ⟨d, q, hn0, c0, -⟩
            · have HHN := hide hn0
              have HHG := hide hg
              have hlook : lookB x.id L = some x.d := by
                rw [HA.out.1, lookB_app hn0]
                simp [lookB]
              have hsx : szL L x.id = 1 + x.d.ks.size := by simp only [szL, hlook]
              have hsum : ((x.id :: X).map (szL L)).sum = sm + (1 + x.d.ks.size) := by rw [List.map_cons, List.sum_cons, hsx, HA.out.2.2.2]; omega
              have hle : ((x.id :: X).map (szL L)).sum ≤ (Fo.cons k ix nm a cap ks .nil).cn L := Nat.le_trans (sum_sub (szL L) (List.nodup_cons.2 ⟨fun h => (by have := (HI2.out.xs _ h).2; rw [hn0] at this; cases this), HI2.out.nx⟩) (fun y hy => by
                rcases List.mem_cons.1 hy with rfl | hy
                · exact HI2.out.kn _ (by rw [hg]; rfl)
                · exact HI2.out.kn _ (HI2.out.xs y hy).1)) (cn_vs L _)
              have hfl := hov.ty.live 0
              have hts : 1 + x.d.ks.size ≤ 20000 := HT.out.2
              by_cases hbig : 20000 < sm + (1 + x.d.ks.size)
              · have HNO : Hid (¬ okA L k ix nm ks) := fun h => by
                  have h1 := h.2.2.2
                  rw [← (gd_cap L k ix nm a cap ks 1).2.1] at h1
                  omega
                have hbi : (20000 : Int) < (sm : Int) + ((1 + x.d.ks.size : Nat) : Int) := by omega
                clear hsum hle hsx hlook hg hn0 hov
                go_wp2_with fail
                refine bodyPost_ret (v := .agg #[.int .i64 0, .int .i64 0, .string ⟨#[]⟩, .slice none 0 0]) (by simp [results, Try.results25, go_sem, p0, pi, p1, p2]) rfl ⟨_, rfl, HZERO.out _ _ HI2.out.be ?_ HNO.out⟩
                exact (((Kept.setCell _ _ _ _ (by simp)).trans (Kept.setCell _ _ _ _ (by simp))).trans (Kept.setCell _ _ _ _ (by simp))).trans (Kept.setCell _ _ _ _ (by simp))
              · have hbi : ¬ (20000 : Int) < (sm : Int) + ((1 + x.d.ks.size : Nat) : Int) := by omega
                have hrd := read_any _ x.d.ks (Nat.lt_succ_self _) x.d.k x.d.ix x.d.nm x.d.a x.d.cap 1 W.heap.size (w1.heap.size + 1) hi ho env2 w2 (by have h1 := HZ01.out; have h2 := HZ02.out; omega) hxt (HSA.out.kept HK2.out (fun c hc => ⟨trivial, by omega⟩)) HT.out.1 HI2.out.r2
                unfold nodeV at hrd
                have HRD := hide hrd
                have HSM : Hid (((x.id :: X).map (szL L)).sum = sm + (1 + x.d.ks.size)) := hsum
                have HPM : Hid (p ≠ w1.heap.size + 1) := fun e => map_ty HI2.out.r2.rd.vm (e ▸ hov.ty)
                have HOV := hide hov
                have HC0 := hide c0
                clear hsum hle hsx hlook hg hn0 hov hrd
                go_wp2_with fail
                refine HRD.out.mono ?_
                rintro e w4 ⟨q, rfl, hp4⟩
                have k4 := hp4.ke
                have c04 : w4.cell? ⟨p, 0, none⟩ = some (.pointer none) := (k4.cell (p := ⟨p, 0, none⟩) HOV.out.ty.lt HPM.out).trans HC0.out
                have f04 : w4.frozen? ⟨p, 0, none⟩ = false := (k4.frozen (p := ⟨p, 0, none⟩) HOV.out.ty.lt HPM.out).trans (HOV.out.ty.live 0)
                obtain ⟨hi', ho', env', hB⟩ := HI2.out.bind x HHG.out HHN.out hp4
                have HBB := hide hB
                clear hB hp4 k4 HRD
                go_wp2_with fail
                go_roundw
                case rel => exact ⟨i + 1, sm + (1 + x.d.ks.size), A ++ [x], B, hi', ho', env', x.id :: X, by go_num, by go_num, by omega, by omega, ⟨HX2.out.1, HX2.out.2, HA2.out, HSM.out⟩, HBB.out⟩
                case measure => simp [intOf]; omega
            · have HN : Hid (AqI w1 w2 w1.heap.size (w1.heap.size + 1) root (.cons k ix nm a cap ks .nil) lo ro env1 (A ++ [x]) hi ho env2 X) := HI2.out.skip x (.inr (by rw [hn0]; rfl))
              clear hg hn0 hov
              go_wp2_with fail
              go_roundw
              case rel => exact ⟨i + 1, sm, A ++ [x], B, hi, ho, env2, X, rfl, by go_num, by omega, hsm, ⟨HX2.out.1, HX2.out.2, HA2.out, HA.out.2.2.2⟩, HN.out⟩
              case measure => simp [intOf]; omega
        · obtain rfl := t2 hT
          have HNO : Hid (¬ okA L k ix nm ks) := fun h => hT (allB_mem h.2.1 x HM.out)
          clear t1 t2 hT
          go_wp2_with fail
          refine bodyPost_ret (v := .agg #[.int .i64 0, .int .i64 0, .string ⟨#[]⟩, .slice none 0 0]) (by simp [results, Try.results25, go_sem, p0, pi, p1, p2]) rfl ⟨_, rfl, HZERO.out _ _ HI2.out.be ?_ HNO.out⟩
          exact (((Kept.setCell _ _ _ _ (by simp)).trans (Kept.setCell _ _ _ _ (by simp))).trans (Kept.setCell _ _ _ _ (by simp))).trans (Kept.setCell _ _ _ _ (by simp))

end Go.Proofs.Ytjlefdalobgdfaa
