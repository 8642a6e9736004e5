import Derived.Test.YtjlefdalobgdfaaAd
namespace Go.Proofs.Ytjlefdalobgdfaa
open Go.RowKit Go.Joins

def zT : Fo := .cons 0 0 ⟨#[]⟩ none 0 .nil .nil

/-- When Apply has an answer. -/
def okA (L : List Bd) (k ix : Int) (nm : ByteArray) (ks : Fo) : Prop := fltB k ix nm ks = false ∧ allB L = true ∧ (Fo.cons k ix nm none 0 ks .nil).gd L 1 ∧ (Fo.cons k ix nm none 0 ks .nil).cn L ≤ 20000

open Classical in
noncomputable def resA (L : List Bd) (k ix : Int) (nm : ByteArray) (ks : Fo) : Fo := if okA L k ix nm ks then (Fo.cons k ix nm none 0 ks .nil).ap L else zT

theorem resA_pos {L : List Bd} {k ix : Int} {nm : ByteArray} {ks : Fo} (h : okA L k ix nm ks) : resA L k ix nm ks = (Fo.cons k ix nm none 0 ks .nil).ap L := if_pos h
theorem resA_neg {L : List Bd} {k ix : Int} {nm : ByteArray} {ks : Fo} (h : ¬ okA L k ix nm ks) : resA L k ix nm ks = zT := if_neg h

theorem allB_mem : ∀ {L : List Bd}, allB L = true → ∀ x ∈ L, TG x.d.k x.d.ix x.d.nm x.d.ks
  | y :: L, h, x, hx => by
    simp only [allB, Bool.and_eq_true, Bool.not_eq_true'] at h
    rcases List.mem_cons.1 hx with rfl | hx
    · have := h.1
      simpa [fltB] using this
    · exact allB_mem h.2 x hx

theorem fltB_good {k ix : Int} {nm : ByteArray} {ks : Fo} (h : fltB k ix nm ks = false) : TG k ix nm ks := by simpa [fltB] using h

theorem gd_cap (L : List Bd) (k ix : Int) (nm : ByteArray) (a : Option Addr) (cap : Nat) (ks : Fo) (d : Nat) : ((Fo.cons k ix nm a cap ks .nil).gd L d ↔ (Fo.cons k ix nm none 0 ks .nil).gd L d) ∧ (Fo.cons k ix nm a cap ks .nil).cn L = (Fo.cons k ix nm none 0 ks .nil).cn L ∧ ((Fo.cons k ix nm a cap ks .nil).ap L).sim ((Fo.cons k ix nm none 0 ks .nil).ap L) := by
  refine ⟨Iff.rfl, rfl, ?_⟩
  simp only [Fo.ap]
  split
  · exact Fo.sim.refl _
  · exact ⟨rfl, rfl, rfl, Fo.sim.refl _, trivial⟩

set_option maxHeartbeats 4000000 in
set_option maxRecDepth 100000 in
theorem sapply (ba : Option Addr) (bn bc : Nat) (L : List Bd) (k ix : Int) (nm : ByteArray) (a : Option Addr) (cap : Nat) (ks : Fo) (W : World) (hbl : BL W W.heap.size ba bn bc L) (hs : ks.Sl W (fun b => b < W.heap.size) a cap) (hk : (Lit.int .i64 k).wf = true) (hix : (Lit.int .i64 ix).wf = true) (hnm : nm.size ≤ maxLen) :
    Calls Try.prog 23 #[.slice ba bn bc, .agg #[.int .i64 k, .int .i64 ix, .string nm, .slice a ks.len cap]] W fun e W' => ∃ d : Nd, e = .returned d.v ∧ d.fo.sim (resA L k ix nm ks) ∧ d.Ok W' (fun c => W.heap.size ≤ c ∧ c < W'.heap.size) ∧ Below W.heap.size W W' := by
  obtain ⟨W0, hW0⟩ : ∃ V, ((W.alloc (.cells #[.int .i64 k, .int .i64 ix, .string nm, .slice a ks.len cap] 29)).alloc (.cells #[.int .i64 0, .int .i64 0, .string ⟨#[]⟩, .slice none 0 0] 29)).alloc (.cells #[.int .i64 20000] 2) = V := ⟨_, rfl⟩
  have b0 := below_alloc3 W (.cells #[.int .i64 k, .int .i64 ix, .string nm, .slice a ks.len cap] 29) (.cells #[.int .i64 0, .int .i64 0, .string ⟨#[]⟩, .slice none 0 0] 29) (.cells #[.int .i64 20000] 2)
  have q4 := (Box4.new (W.alloc (.cells #[.int .i64 k, .int .i64 ix, .string nm, .slice a ks.len cap] 29)) (.int .i64 0) (.int .i64 0) (.string ⟨#[]⟩) (.slice none 0 0) 29).alloc (.cells #[.int .i64 20000] 2)
  have q2 := ((Box4.new W (.int .i64 k) (.int .i64 ix) (.string nm) (.slice a ks.len cap) 29).alloc (.cells #[.int .i64 0, .int .i64 0, .string ⟨#[]⟩, .slice none 0 0] 29)).alloc (.cells #[.int .i64 20000] 2)
  rw [World.size_alloc] at q4
  have hz : (((W.alloc (.cells #[.int .i64 k, .int .i64 ix, .string nm, .slice a ks.len cap] 29)).alloc (.cells #[.int .i64 0, .int .i64 0, .string ⟨#[]⟩, .slice none 0 0] 29)).alloc (.cells #[.int .i64 20000] 2)).heap.size = W.heap.size + 1 + 1 + 1 := by simp
  have hl : W0.heap[W.heap.size + 1 + 1]? = some (.cells #[.int .i64 20000] 2) := by
    rw [← hW0]
    have := (MapKept.heap_alloc ((W.alloc (.cells #[.int .i64 k, .int .i64 ix, .string nm, .slice a ks.len cap] 29)).alloc (.cells #[.int .i64 0, .int .i64 0, .string ⟨#[]⟩, .slice none 0 0] 29)) (.cells #[.int .i64 20000] 2)).1
    simpa using this
  rw [hW0] at b0 q4 q2 hz
  have k0 : Kept (fun _ => True) W W0 := kt b0
  obtain ⟨-, d0, di, d1, d2, -, -, -, -⟩ := id q2
  obtain ⟨-, p0, pi, p1, p2, f0, fi, f1, f2⟩ := id q4
  have HBL := hide (hbl.kept k0 (fun _ _ => trivial) (Nat.le_refl _))
  have HSL : Hid (ks.Sl W0 (fun b => b < W.heap.size) a cap) := hs.kept k0 (fun c hc => ⟨trivial, hc⟩)
  have HLL : Hid (W0.cell? ⟨W.heap.size + 1 + 1, 0, none⟩ = some (.int .i64 20000) ∧ W0.frozen? ⟨W.heap.size + 1 + 1, 0, none⟩ = false) := ⟨by simp [World.cell?, hl], by simp [World.frozen?, hl]⟩
  have HF1 : Hid (∀ V, Kept (fun _ => True) W0 V → Calls Try.prog 10 #[.agg #[.int .i64 k, .int .i64 ix, .string nm, .slice a ks.len cap]] V fun e W' => e = .returned (.bool (fltB k ix nm ks)) ∧ Below V.heap.size V W') := fun V kV => by
    have h := sfault k ix nm a cap ks V ((HSL.out.kept kV (fun c hc => ⟨trivial, by omega⟩)).mono (fun c hc => by have := kV.size; omega))
    unfold nodeV at h
    exact h
  have HB0 := hide b0
  have HQ4 := hide q4
  have HQ2 := hide q2
  have HZ := hide hz
  have HW0 := hide hW0
  have HZERO : Hid (∀ (V : World), Kept (fun c => c ≠ W.heap.size + 1 ∧ c ≠ W.heap.size + 1 + 1) W0 V → ¬ okA L k ix nm ks → ∃ d : Nd, Ending.returned (.agg #[.int .i64 0, .int .i64 0, .string ⟨#[]⟩, .slice none 0 0]) = .returned d.v ∧ d.fo.sim (resA L k ix nm ks) ∧ d.Ok V (fun c => W.heap.size ≤ c ∧ c < V.heap.size) ∧ Below W.heap.size W V) := fun V kV h => by
    refine ⟨⟨0, 0, ⟨#[]⟩, none, 0, .nil⟩, rfl, by rw [resA_neg h]; exact ⟨rfl, rfl, rfl, trivial, trivial⟩, ⟨by show (Lit.int .i64 0).wf = true; decide, by show (Lit.int .i64 0).wf = true; decide, by show (0 : Nat) ≤ maxLen; exact Nat.zero_le _, ⟨Nat.le_refl _, Nat.zero_le _, fun h => by simp [Fo.len] at h⟩⟩, Below.kept HB0.out kV (fun c hc => ⟨by omega, by omega⟩) (Nat.le_refl _)⟩
  clear b0 q4 q2 hz hW0 k0 hbl hs hl
  cases hq : fltB k ix nm ks with
  | true =>
    have HNO : Hid (¬ okA L k ix nm ks) := fun h => absurd (hq.symm.trans h.1) (by simp)
    rw [hq] at HF1
    go_enter Try.func23, Try.ntmps23
    go_upto_region 2 with fail
    rw [HW0.out]
    clear HW0
    go_wp2_with fail
    refine (HF1.out W0 (Kept.refl _ _)).mono ?_
    rintro e w1 ⟨rfl, b1⟩
    have k1 : Kept (fun _ => True) W0 w1 := kt b1
    obtain ⟨-, p0, pi, p1, p2, f0, fi, f1, f2⟩ := HQ4.out.kept k1 trivial
    have HK1 := hide k1
    clear b1 k1
    go_wp2_with fail
    refine bodyPost_ret (v := .agg #[.int .i64 0, .int .i64 0, .string ⟨#[]⟩, .slice none 0 0]) (by simp [results, Try.results23, go_sem, p0, pi, p1, p2]) rfl (HZERO.out _ ?_ HNO.out)
    refine (HK1.out.mono (fun _ _ _ => trivial)).trans ?_
    exact (((Kept.setCell _ _ _ _ (by simp)).trans (Kept.setCell _ _ _ _ (by simp))).trans (Kept.setCell _ _ _ _ (by simp))).trans (Kept.setCell _ _ _ _ (by simp))
  | false =>
    have hTG := fltB_good hq
    have HF2 : Hid (∀ V, Kept (fun _ => True) W0 V → Calls Try.prog 53 #[.slice ba bn bc] V fun e W' => e = .returned (.bool (allB L)) ∧ Below V.heap.size V W') := fun V kV => by
      have h := HBL.out.kept kV (fun _ _ => trivial) (by have := HZ.out; omega)
      refine sbinds ba bn bc L V ⟨h.ln, h.le, h.mx, fun hn => ?_⟩
      obtain ⟨b, o, e, hb, hg⟩ := h.at_ hn
      have hzV := kV.size
      have hz := HZ.out
      exact ⟨b, o, e, by omega, fun i x hx => ⟨(hg i x hx).wf, (hg i x hx).c, ⟨(hg i x hx).at_.wf, (hg i x hx).at_.wi, (hg i x hx).at_.nm, (hg i x hx).at_.c0, (hg i x hx).at_.ci, (hg i x hx).at_.c1, (hg i x hx).at_.c2, (hg i x hx).at_.sl.mono (fun c hc => by omega)⟩⟩⟩
    rw [hq] at HF1
    cases ha : allB L with
    | false =>
      have HNO : Hid (¬ okA L k ix nm ks) := fun h => absurd (ha.symm.trans h.2.1) (by simp)
      rw [ha] at HF2
      go_enter Try.func23, Try.ntmps23
      go_upto_region 2 with fail
      rw [HW0.out]
      clear HW0
      go_wp2_with fail
      refine (HF1.out W0 (Kept.refl _ _)).mono ?_
      rintro e w1 ⟨rfl, b1⟩
      have k1 : Kept (fun _ => True) W0 w1 := kt b1
      have HK1 := hide k1
      clear b1 k1
      go_wp2_with fail
      refine (HF2.out w1 HK1.out).mono ?_
      rintro e w2 ⟨rfl, b2⟩
      have k2 : Kept (fun _ => True) W0 w2 := HK1.out.trans (kt b2)
      obtain ⟨-, p0, pi, p1, p2, f0, fi, f1, f2⟩ := HQ4.out.kept k2 trivial
      have HK2 := hide k2
      clear b2 k2
      go_wp2_with fail
      refine bodyPost_ret (v := .agg #[.int .i64 0, .int .i64 0, .string ⟨#[]⟩, .slice none 0 0]) (by simp [results, Try.results23, go_sem, p0, pi, p1, p2]) rfl (HZERO.out _ ?_ HNO.out)
      refine (HK2.out.mono (fun _ _ _ => trivial)).trans ?_
      exact (((Kept.setCell _ _ _ _ (by simp)).trans (Kept.setCell _ _ _ _ (by simp))).trans (Kept.setCell _ _ _ _ (by simp))).trans (Kept.setCell _ _ _ _ (by simp))
    | true =>
      rw [ha] at HF2
      have hL : ∀ x ∈ L, x.d.ks.size ≤ 1048576 := fun x hx => by have := (allB_mem ha x hx).2; omega
      have HF3 : Hid (∀ V, Kept (fun _ => True) W0 V → Calls Try.prog 54 #[.slice ba bn bc, .agg #[.int .i64 k, .int .i64 ix, .string nm, .slice a ks.len cap], .int .i64 1, .pointer (some ⟨W.heap.size + 1 + 1, 0, none⟩)] V fun e W' => FltP V W' (W.heap.size + 1 + 1) 20000 ((Fo.cons k ix nm a cap ks .nil).gd L 1) ((Fo.cons k ix nm a cap ks .nil).cn L) e) := fun V kV => by
        have hz := HZ.out
        have hzV := kV.size
        have h := lrg_node ba bn bc L _ ks (Nat.lt_succ_self _) k ix nm 1 20000 W.heap.size (W.heap.size + 1 + 1) V a cap (by omega) (by omega) (by omega) (by omega) (by omega) (HBL.out.kept kV (fun _ _ => trivial) (by omega)) (HSL.out.kept kV (fun c hc => ⟨trivial, by omega⟩)) ((kV.cell (p := ⟨W.heap.size + 1 + 1, 0, none⟩) (by show W.heap.size + 1 + 1 < _; omega) trivial).trans HLL.out.1) ((kV.frozen (p := ⟨W.heap.size + 1 + 1, 0, none⟩) (by show W.heap.size + 1 + 1 < _; omega) trivial).trans HLL.out.2)
        unfold nodeV at h
        exact h
      have HF4 : Hid (∀ V, Kept (fun c => c ≠ W.heap.size + 1 + 1) W0 V → Calls Try.prog 55 #[.slice ba bn bc, .agg #[.int .i64 k, .int .i64 ix, .string nm, .slice a ks.len cap]] V fun e W' => ∃ v', e = .returned v' ∧ ∃ d : Nd, v' = d.v ∧ d.fo.sim ((Fo.cons k ix nm a cap ks .nil).ap L) ∧ d.Ok W' (fun c => V.heap.size ≤ c ∧ c < W'.heap.size) ∧ Below V.heap.size V W') := fun V kV => by
        have hz := HZ.out
        have hzV := kV.size
        have h := app_any ba bn bc L hL _ ks (Nat.lt_succ_self _) k ix nm W.heap.size V a cap (by omega) (by have := hTG.2; omega) hk hix hnm (HSL.out.kept kV (fun c hc => ⟨by omega, by omega⟩)) (HBL.out.kept kV (fun c hc => by omega) (by omega)) (Fo.good.vn hTG.1)
        unfold nodeV at h
        exact h
      have HTG := hide hTG
      clear hTG
      go_enter Try.func23, Try.ntmps23
      go_upto_region 2 with fail
      rw [HW0.out]
      clear HW0
      go_wp2_with fail
      refine (HF1.out W0 (Kept.refl _ _)).mono ?_
      rintro e w1 ⟨rfl, b1⟩
      have HK1 : Hid (Kept (fun _ => True) W0 w1) := kt b1
      obtain ⟨-, d0, di, d1, d2, -, -, -, -⟩ := HQ2.out.kept HK1.out trivial
      clear b1
      go_wp2_with fail
      refine (HF2.out w1 HK1.out).mono ?_
      rintro e w2 ⟨rfl, b2⟩
      have HK2 : Hid (Kept (fun _ => True) W0 w2) := HK1.out.trans (kt b2)
      obtain ⟨-, d0, di, d1, d2, -, -, -, -⟩ := HQ2.out.kept HK2.out trivial
      clear b2
      go_wp2_with fail
      refine (HF3.out w2 HK2.out).mono ?_
      rintro e w3 ⟨k3, (⟨rfl, g1, g2, -, -⟩ | ⟨rfl, g1⟩)⟩
      · have HK3 : Hid (Kept (fun c => c ≠ W.heap.size + 1 + 1) W0 w3) := (HK2.out.mono (fun _ _ _ => trivial)).trans k3
        have HOK : Hid (okA L k ix nm ks) := ⟨hq, ha, g1, by have := g2; have e := (gd_cap L k ix nm a cap ks 1).2.1; rw [e] at this; omega⟩
        obtain ⟨-, d0, di, d1, d2, -, -, -, -⟩ := HQ2.out.kept HK3.out (by omega)
        clear k3 g1 g2
        go_wp2_with fail
        refine (HF4.out w3 HK3.out).mono ?_
        rintro e w4 ⟨v', rfl, d, rfl, hd1, hd2, hb4⟩
        unfold Nd.v nodeV
        have HK4 : Hid (Kept (fun c => c ≠ W.heap.size + 1 + 1) W0 w4) := HK3.out.trans (kt hb4)
        obtain ⟨-, p0, pi, p1, p2, f0, fi, f1, f2⟩ := HQ4.out.kept HK4.out (by omega)
        have hz3 := HK3.out.size
        have hz := HZ.out
        have HD : Hid (d.fo.sim ((Fo.cons k ix nm a cap ks .nil).ap L) ∧ d.Ok w4 (fun c => w3.heap.size ≤ c ∧ c < w4.heap.size)) := ⟨hd1, hd2⟩
        clear hd1 hd2 hb4
        go_wp2_with fail
        refine bodyPost_ret (v := .agg #[.int .i64 d.k, .int .i64 d.ix, .string d.nm, .slice d.a d.ks.len d.cap]) (by simp [results, Try.results23, go_sem, p0, pi, p1, p2]) rfl ⟨d, rfl, by rw [resA_pos HOK.out]; exact HD.out.1.trans (gd_cap L k ix nm a cap ks 1).2.2, ?_⟩
        refine (fun (V : World) (kV : Kept (fun c => c ≠ W.heap.size + 1) w4 V) => (?_ : d.Ok V (fun c => W.heap.size ≤ c ∧ c < V.heap.size) ∧ Below W.heap.size W V)) _ ?_
        · have := kV.size
          exact ⟨HD.out.2.keep (fun c h => ⟨by omega, by omega⟩) (fun p hp v hv => (kV.cell (p := p) hp.2 (by have := hp.1; omega)).trans hv), Below.kept (Below.kept HB0.out HK4.out (fun c hc => by omega) (Nat.le_refl _)) kV (fun c hc => by omega) (Nat.le_refl _)⟩
        · exact (((Kept.setCell _ _ _ _ (by simp)).trans (Kept.setCell _ _ _ _ (by simp))).trans (Kept.setCell _ _ _ _ (by simp))).trans (Kept.setCell _ _ _ _ (by simp))
      · have HK3 : Hid (Kept (fun c => c ≠ W.heap.size + 1 + 1) W0 w3) := (HK2.out.mono (fun _ _ _ => trivial)).trans k3
        have HNO : Hid (¬ okA L k ix nm ks) := fun h => g1 ⟨h.2.2.1, by have := h.2.2.2; have e := (gd_cap L k ix nm a cap ks 1).2.1; rw [← e] at this; omega⟩
        obtain ⟨-, p0, pi, p1, p2, f0, fi, f1, f2⟩ := HQ4.out.kept HK3.out (by omega)
        clear k3 g1
        go_wp2_with fail
        refine bodyPost_ret (v := .agg #[.int .i64 0, .int .i64 0, .string ⟨#[]⟩, .slice none 0 0]) (by simp [results, Try.results23, go_sem, p0, pi, p1, p2]) rfl (HZERO.out _ ?_ HNO.out)
        refine (HK3.out.mono (fun _ _ h => h.2)).trans ?_
        exact (((Kept.setCell _ _ _ _ (by simp)).trans (Kept.setCell _ _ _ _ (by simp))).trans (Kept.setCell _ _ _ _ (by simp))).trans (Kept.setCell _ _ _ _ (by simp))

end Go.Proofs.Ytjlefdalobgdfaa
