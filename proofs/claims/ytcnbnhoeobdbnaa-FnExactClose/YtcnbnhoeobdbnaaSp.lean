import Derived.Test.YtcnbnhoeobdbnaaWo
import Derived.Deep.RegionHeld3
import Derived.Deep.DeepCutAuto
namespace Go.Proofs.Ytcnbnhoeobdbnaa
open Go.RowKit Go.Joins

/-- A call that a guard lets through, as one step of a region that draws. -/
theorem step_callg {P : Program} {ops : Array Oper} {o : Oper} {a : Act} {w : World} {K : Act → World → Prop} {Q : Exit → Act → World → Prop} {E : Prop} (hw : Region.wanted o (yielded ops a.tmps) = true) (f : FuncId) (args : Array Value) (hrun : (execOp a.eval o).run P w = .ok (.enter f args) w) (post : Value → World → Prop)
    (hc : Calls P f args w fun e w'' => ∃ v, e = .returned v ∧ post v w'') (h : ∀ v w', post v w' → K (a.put o.dst v) w') :
    if Region.wanted o (yielded ops a.tmps) = true then Oper.wp P o a w K Q else E := by
  rw [if_pos hw]
  unfold Oper.wp
  rw [hrun, Oper.upon_enter]
  refine hc.mono fun e w'' hh => ?_
  obtain ⟨v, rfl, hp⟩ := hh
  exact h v w'' hp

open Classical in
noncomputable def sopT (c f : Int) (F : Fo) : Fo := if F.pls c then F.op f else zeroT

set_option maxRecDepth 100000 in
set_option maxHeartbeats 4000000 in
/-- The model's Open, where nothing is wrong with the type and the numbers. -/
theorem sopen_good (c : Int) (pa : Option Addr) (pn pc : Nat) (k ix : Int) (nm : ByteArray) (a : Option Addr) (cap : Nat) (ks : Fo) (f : Int) (w : World)
    (hk : (Lit.int .i64 k).wf = true) (hix : (Lit.int .i64 ix).wf = true) (hnm : nm.size ≤ maxLen) (hs : ks.Sl w (fun b => b < w.heap.size) a cap) (hsz : ks.size ≤ 1048576) (hT : TG k ix nm ks) (h1 : ¬ f < 0) (h2 : ¬ 1099511627776 < f) (h3 : ¬ c < 0) (h4 : ¬ 1099511627776 < c) (hpls : (Fo.cons k ix nm a cap ks .nil).pls c) :
    Calls Try.prog 40 #[schV c pa pn pc k ix nm a ks.len cap, .int .i64 f] w fun e W' => ∃ d : Nd, e = .returned d.v ∧ d.fo.sim ((Fo.cons k ix nm a cap ks .nil).op f) ∧ d.Ok W' (fun c => w.heap.size ≤ c ∧ c < W'.heap.size) ∧ Below w.heap.size w W' := by
  unfold schV
  have hflt : fltB k ix nm ks = false := by simp [fltB, hT]
  obtain ⟨W2, hW2⟩ : ∃ W2, (w.alloc (.cells #[.int .i64 c, .slice pa pn pc, .int .i64 k, .int .i64 ix, .string nm, .slice a ks.len cap] 51)).alloc (.cells #[.int .i64 0, .int .i64 0, .string ⟨#[]⟩, .slice none 0 0] 29) = W2 := ⟨_, rfl⟩
  have b2 : Below w.heap.size w W2 := by rw [← hW2]; exact below_alloc2 _ _ _
  have z2 : W2.heap.size = w.heap.size + 1 + 1 := by rw [← hW2]; simp
  have q1 : Box6 W2 w.heap.size (.int .i64 c) (.slice pa pn pc) (.int .i64 k) (.int .i64 ix) (.string nm) (.slice a ks.len cap) := by
    rw [← hW2]
    exact (Box6.new _ _ _ _ _ _ _ _).kept (Kept.alloc (fun _ => True) _ _) trivial
  have q4 : Box4 W2 (w.heap.size + 1) (.int .i64 0) (.int .i64 0) (.string ⟨#[]⟩) (.slice none 0 0) := by
    rw [← hW2]
    have := Box4.new (w.alloc (.cells #[.int .i64 c, .slice pa pn pc, .int .i64 k, .int .i64 ix, .string nm, .slice a ks.len cap] 51)) (.int .i64 0) (.int .i64 0) (.string ⟨#[]⟩) (.slice none 0 0) 29
    rwa [World.size_alloc] at this
  obtain ⟨M, hM⟩ : ∃ M, ks.mst (if k = 2 then ix else -1) = M := ⟨_, rfl⟩
  have hMc : M < c := by
    rw [← hM, Fo.mst_lt (by omega)]
    refine ⟨?_, hpls.2.1⟩
    split
    · next h => exact hpls.1 h
    · omega
  have HCF : Hid (∀ V, Kept (fun _ => True) W2 V → Calls Try.prog 10 #[.agg #[.int .i64 k, .int .i64 ix, .string nm, .slice a ks.len cap]] V fun e w' => ∃ v, e = .returned v ∧ (v = .bool false ∧ Below V.heap.size V w')) := fun V kV => by
    have h := sfault k ix nm a cap ks V (((hs.below b2 (fun _ x => x)).kept kV (fun b x => ⟨trivial, by omega⟩)).mono (fun b x => by have := kV.size; omega))
    unfold nodeV at h
    rw [hflt] at h
    exact h.mono (fun e w' h => ⟨_, h.1, rfl, h.2⟩)
  have HCM : Hid (∀ V, Kept (fun _ => True) W2 V → Calls Try.prog 73 #[.agg #[.int .i64 k, .int .i64 ix, .string nm, .slice a ks.len cap]] V fun e w' => ∃ v, e = .returned v ∧ (v = .int .i64 M ∧ Below V.heap.size V w')) := fun V kV => by
    have h := most_node _ ks (Nat.lt_succ_self _) k ix nm w.heap.size V a cap (by have := kV.size; omega) ((hs.below b2 (fun _ x => x)).kept kV (fun b x => ⟨trivial, by omega⟩))
    unfold nodeV at h
    rw [hM] at h
    exact h.mono (fun e w' h => ⟨_, h.1, rfl, h.2⟩)
  have HB2 := hide b2
  have HZ2 := hide z2
  have HQ1 := hide q1
  have HQ4 := hide q4
  have HS := hide hs
  have d1 : decide (f < 0) = false := decide_eq_false h1
  have d2 : decide (1099511627776 < f) = false := decide_eq_false h2
  have d3 : decide (c < 0) = false := decide_eq_false h3
  have d4 : decide (1099511627776 < c) = false := decide_eq_false h4
  have d5 : decide (c ≤ M) = false := decide_eq_false (by omega)
  obtain ⟨-, xu, xp, x0, xi, x1, x2, -, -, -, -, -, -⟩ := id q1
  have HPL := hide hpls
  clear b2 z2 q1 q4 hs hM hflt hpls
  go_enter Try.func40, Try.ntmps40
  go_upto_region 1 with fail
  clear hW2
  go_cut [33] (fun s33 wx => s33 = .bool false ∧ Kept (fun _ => True) W2 wx)
  case first =>
    have k0 := HQ1.out
    have S0 : W2.drew.cell? ⟨w.heap.size, 0, none⟩ = some (.int .i64 c) ∧ W2.drew.cell? ⟨w.heap.size, 2, none⟩ = some (.int .i64 k) ∧ W2.drew.cell? ⟨w.heap.size, 3, none⟩ = some (.int .i64 ix) ∧ W2.drew.cell? ⟨w.heap.size, 4, none⟩ = some (.string nm) ∧ W2.drew.cell? ⟨w.heap.size, 5, none⟩ = some (.slice a ks.len cap) := ⟨xu, x0, xi, x1, x2⟩
    have HCF2 : Hid (Calls Try.prog 10 #[.agg #[.int .i64 k, .int .i64 ix, .string nm, .slice a ks.len cap]] W2.drew fun e w' => e = .returned (.bool false) ∧ Below W2.heap.size W2.drew w') := (HCF.out W2.drew (Kept.drew _ _)).mono (fun e w' ⟨v, h1, h2, h3⟩ => ⟨by rw [h1, h2], h3⟩)
    have HCM2 : Hid (∀ V, Kept (fun _ => True) W2 V → Calls Try.prog 73 #[.agg #[.int .i64 k, .int .i64 ix, .string nm, .slice a ks.len cap]] V fun e w' => e = .returned (.int .i64 M) ∧ Below V.heap.size V w') := fun V kV => (HCM.out V kV).mono (fun e w' ⟨v, h1, h2, h3⟩ => ⟨by rw [h1, h2], h3⟩)
    have HSQ : Hid (∀ V, Kept (fun _ => True) W2 V → V.cell? ⟨w.heap.size, 0, none⟩ = some (.int .i64 c) ∧ V.cell? ⟨w.heap.size, 2, none⟩ = some (.int .i64 k) ∧ V.cell? ⟨w.heap.size, 3, none⟩ = some (.int .i64 ix) ∧ V.cell? ⟨w.heap.size, 4, none⟩ = some (.string nm) ∧ V.cell? ⟨w.heap.size, 5, none⟩ = some (.slice a ks.len cap)) := fun V kV => by
      have q := HQ1.out.kept kV trivial
      exact ⟨q.cu, q.c0, q.ci, q.c1, q.c2⟩
    clear k0 HCF HCM
    go_region_held3 (fun V => V.cell? ⟨w.heap.size, 0, none⟩ = some (.int .i64 c) ∧ V.cell? ⟨w.heap.size, 2, none⟩ = some (.int .i64 k) ∧ V.cell? ⟨w.heap.size, 3, none⟩ = some (.int .i64 ix) ∧ V.cell? ⟨w.heap.size, 4, none⟩ = some (.string nm) ∧ V.cell? ⟨w.heap.size, 5, none⟩ = some (.slice a ks.len cap))
      (first | with_reducible exact S6 | with_reducible exact S5 | with_reducible exact S0)
      (first
        | (go_at_call 10; refine HCF2.out.mono ?_; rintro e w5 ⟨rfl, b5⟩; have HK5 : Hid (Kept (fun _ => True) W2 w5) := (Kept.drew _ _).trans (Kept.of_below b5 (fun c hc _ => hc)); have S5 := HSQ.out w5 HK5.out; clear b5)
        | (go_at_call 73; refine (HCM2.out w5 HK5.out).mono ?_; rintro e w6 ⟨rfl, b6⟩; have HK6 : Hid (Kept (fun _ => True) W2 w6) := HK5.out.trans (kt b6); have S6 := HSQ.out w6 HK6.out; clear b6))
    all_goals
      go_wp2_with fail
      go_meet
      case rel => exact ⟨rfl, HK6.out⟩
  case rest =>
    obtain ⟨rfl, kx⟩ := hcut
    rename World => wx
    have q1 := HQ1.out.kept kx trivial
    have q4 := HQ4.out.kept kx trivial
    have zx := kx.size
    have hz := HZ2.out
    have Bx : Below w.heap.size w wx := HB2.out.trans ((kx.below (fun _ _ => trivial) (Nat.le_refl _)).mono (by omega))
    have hpl := Fo.pl_of (by omega : c ≤ 1099511627776) _ 1 (show (Fo.cons k ix nm a cap ks .nil).good 1 from hT.1) HPL.out
    have HO := open_any _ ks (Nat.lt_succ_self _) k ix nm f w.heap.size wx a cap (by omega) hsz (by omega) (by omega) hk hix hnm (HS.out.below Bx (fun _ x => x)) hpl
    unfold nodeV at HO
    have HO' := hide HO
    have HBX := hide Bx
    have HQ := hide q4
    have HZX := hide (And.intro zx hz)
    clear HO Bx q4 hpl kx zx hz xu xp x0 xi x1 x2
    obtain ⟨-, xu, xp, x0, xi, x1, x2, -, -, -, -, -, -⟩ := q1
    go_wp2_with fail
    refine HO'.out.mono ?_
    rintro e w6 ⟨v6, rfl, d, rfl, sd, okd, b6⟩
    have q6 := HQ.out.below b6 (by have := HQ.out.lt; omega)
    have HX := hide (And.intro sd (And.intro okd b6))
    obtain ⟨-, y0, yi, y1, y2, u0, ui, u1, u2⟩ := q6
    clear sd okd b6 xu xp x0 xi x1 x2
    unfold Nd.v nodeV
    go_wp2_with fail
    obtain ⟨sd, okd, b6⟩ := HX.out
    obtain ⟨zx, hz⟩ := HZX.out
    have z6 := b6.size
    obtain ⟨V, hV⟩ : ∃ V, (((w6.setCell ⟨w.heap.size + 1, 0, none⟩ (.int .i64 d.k)).setCell ⟨w.heap.size + 1, 1, none⟩ (.int .i64 d.ix)).setCell ⟨w.heap.size + 1, 2, none⟩ (.string d.nm)).setCell ⟨w.heap.size + 1, 3, none⟩ (.slice d.a d.ks.len d.cap) = V := ⟨_, rfl⟩
    have kV : Kept (fun c => c ≠ w.heap.size + 1) w6 V := by
      rw [← hV]
      exact (((Kept.setCell _ _ _ _ (by simp)).trans (Kept.setCell _ _ _ _ (by simp))).trans (Kept.setCell _ _ _ _ (by simp))).trans (Kept.setCell _ _ _ _ (by simp))
    refine bodyPost_ret (v := .agg #[.int .i64 d.k, .int .i64 d.ix, .string d.nm, .slice d.a d.ks.len d.cap]) (by simp [results, Try.results40, go_sem, y0, yi, y1, y2]) rfl ⟨d, rfl, sd, ?_, ?_⟩
    · rw [hV]
      exact okd.keep (fun c h => ⟨by have := h.1; omega, Nat.lt_of_lt_of_le h.2 kV.size⟩) (fun p hp v hv => (kV.cell (p := p) hp.2 (by have := hp.1; show p.block ≠ _; omega)).trans hv)
    · rw [hV]
      exact Below.kept (HBX.out.trans (b6.mono (by omega))) kV (fun c hc => by omega) (Nat.le_refl _)

set_option maxRecDepth 100000 in
set_option maxHeartbeats 4000000 in
/-- .. where a place is too great. -/
theorem sopen_most (c : Int) (pa : Option Addr) (pn pc : Nat) (k ix : Int) (nm : ByteArray) (a : Option Addr) (cap : Nat) (ks : Fo) (f : Int) (w : World)
    (hs : ks.Sl w (fun b => b < w.heap.size) a cap) (hT : TG k ix nm ks) (h1 : ¬ f < 0) (h2 : ¬ 1099511627776 < f) (h3 : ¬ c < 0) (h4 : ¬ 1099511627776 < c) (hpls : ¬ (Fo.cons k ix nm a cap ks .nil).pls c) :
    Calls Try.prog 40 #[schV c pa pn pc k ix nm a ks.len cap, .int .i64 f] w fun e W' => ∃ d : Nd, e = .returned d.v ∧ d.fo.sim zeroT ∧ d.Ok W' (fun c => w.heap.size ≤ c ∧ c < W'.heap.size) ∧ Below w.heap.size w W' := by
  unfold schV
  have hflt : fltB k ix nm ks = false := by simp [fltB, hT]
  obtain ⟨W2, hW2⟩ : ∃ W2, (w.alloc (.cells #[.int .i64 c, .slice pa pn pc, .int .i64 k, .int .i64 ix, .string nm, .slice a ks.len cap] 51)).alloc (.cells #[.int .i64 0, .int .i64 0, .string ⟨#[]⟩, .slice none 0 0] 29) = W2 := ⟨_, rfl⟩
  have b2 : Below w.heap.size w W2 := by rw [← hW2]; exact below_alloc2 _ _ _
  have z2 : W2.heap.size = w.heap.size + 1 + 1 := by rw [← hW2]; simp
  have q1 : Box6 W2 w.heap.size (.int .i64 c) (.slice pa pn pc) (.int .i64 k) (.int .i64 ix) (.string nm) (.slice a ks.len cap) := by
    rw [← hW2]
    exact (Box6.new _ _ _ _ _ _ _ _).kept (Kept.alloc (fun _ => True) _ _) trivial
  have q4 : Box4 W2 (w.heap.size + 1) (.int .i64 0) (.int .i64 0) (.string ⟨#[]⟩) (.slice none 0 0) := by
    rw [← hW2]
    have := Box4.new (w.alloc (.cells #[.int .i64 c, .slice pa pn pc, .int .i64 k, .int .i64 ix, .string nm, .slice a ks.len cap] 51)) (.int .i64 0) (.int .i64 0) (.string ⟨#[]⟩) (.slice none 0 0) 29
    rwa [World.size_alloc] at this
  obtain ⟨M, hM⟩ : ∃ M, ks.mst (if k = 2 then ix else -1) = M := ⟨_, rfl⟩
  have hMc : ¬ M < c := by
    rw [← hM, Fo.mst_lt (by omega)]
    rintro ⟨g1, g2⟩
    refine hpls ⟨fun h => ?_, g2, trivial⟩
    rw [if_pos h] at g1
    exact g1
  have HCF : Hid (∀ V, Kept (fun _ => True) W2 V → Calls Try.prog 10 #[.agg #[.int .i64 k, .int .i64 ix, .string nm, .slice a ks.len cap]] V fun e w' => ∃ v, e = .returned v ∧ (v = .bool false ∧ Below V.heap.size V w')) := fun V kV => by
    have h := sfault k ix nm a cap ks V (((hs.below b2 (fun _ x => x)).kept kV (fun b x => ⟨trivial, by omega⟩)).mono (fun b x => by have := kV.size; omega))
    unfold nodeV at h
    rw [hflt] at h
    exact h.mono (fun e w' h => ⟨_, h.1, rfl, h.2⟩)
  have HCM : Hid (∀ V, Kept (fun _ => True) W2 V → Calls Try.prog 73 #[.agg #[.int .i64 k, .int .i64 ix, .string nm, .slice a ks.len cap]] V fun e w' => ∃ v, e = .returned v ∧ (v = .int .i64 M ∧ Below V.heap.size V w')) := fun V kV => by
    have h := most_node _ ks (Nat.lt_succ_self _) k ix nm w.heap.size V a cap (by have := kV.size; omega) ((hs.below b2 (fun _ x => x)).kept kV (fun b x => ⟨trivial, by omega⟩))
    unfold nodeV at h
    rw [hM] at h
    exact h.mono (fun e w' h => ⟨_, h.1, rfl, h.2⟩)
  have HB2 := hide b2
  have HZ2 := hide z2
  have HQ1 := hide q1
  have HQ4 := hide q4
  have HS := hide hs
  have d1 : decide (f < 0) = false := decide_eq_false h1
  have d2 : decide (1099511627776 < f) = false := decide_eq_false h2
  have d3 : decide (c < 0) = false := decide_eq_false h3
  have d4 : decide (1099511627776 < c) = false := decide_eq_false h4
  have d5 : decide (c ≤ M) = true := decide_eq_true (by omega)
  obtain ⟨-, xu, xp, x0, xi, x1, x2, -, -, -, -, -, -⟩ := id q1
  clear b2 z2 q1 q4 hs hM hflt hpls
  go_enter Try.func40, Try.ntmps40
  go_upto_region 1 with fail
  clear hW2
  go_cut [33] (fun s33 wx => s33 = .bool true ∧ Kept (fun _ => True) W2 wx)
  case first =>
    have k0 := HQ1.out
    have S0 : W2.drew.cell? ⟨w.heap.size, 0, none⟩ = some (.int .i64 c) ∧ W2.drew.cell? ⟨w.heap.size, 2, none⟩ = some (.int .i64 k) ∧ W2.drew.cell? ⟨w.heap.size, 3, none⟩ = some (.int .i64 ix) ∧ W2.drew.cell? ⟨w.heap.size, 4, none⟩ = some (.string nm) ∧ W2.drew.cell? ⟨w.heap.size, 5, none⟩ = some (.slice a ks.len cap) := ⟨xu, x0, xi, x1, x2⟩
    have HCF2 : Hid (Calls Try.prog 10 #[.agg #[.int .i64 k, .int .i64 ix, .string nm, .slice a ks.len cap]] W2.drew fun e w' => e = .returned (.bool false) ∧ Below W2.heap.size W2.drew w') := (HCF.out W2.drew (Kept.drew _ _)).mono (fun e w' ⟨v, h1, h2, h3⟩ => ⟨by rw [h1, h2], h3⟩)
    have HCM2 : Hid (∀ V, Kept (fun _ => True) W2 V → Calls Try.prog 73 #[.agg #[.int .i64 k, .int .i64 ix, .string nm, .slice a ks.len cap]] V fun e w' => e = .returned (.int .i64 M) ∧ Below V.heap.size V w') := fun V kV => (HCM.out V kV).mono (fun e w' ⟨v, h1, h2, h3⟩ => ⟨by rw [h1, h2], h3⟩)
    have HSQ : Hid (∀ V, Kept (fun _ => True) W2 V → V.cell? ⟨w.heap.size, 0, none⟩ = some (.int .i64 c) ∧ V.cell? ⟨w.heap.size, 2, none⟩ = some (.int .i64 k) ∧ V.cell? ⟨w.heap.size, 3, none⟩ = some (.int .i64 ix) ∧ V.cell? ⟨w.heap.size, 4, none⟩ = some (.string nm) ∧ V.cell? ⟨w.heap.size, 5, none⟩ = some (.slice a ks.len cap)) := fun V kV => by
      have q := HQ1.out.kept kV trivial
      exact ⟨q.cu, q.c0, q.ci, q.c1, q.c2⟩
    clear k0 HCF HCM
    go_region_held3 (fun V => V.cell? ⟨w.heap.size, 0, none⟩ = some (.int .i64 c) ∧ V.cell? ⟨w.heap.size, 2, none⟩ = some (.int .i64 k) ∧ V.cell? ⟨w.heap.size, 3, none⟩ = some (.int .i64 ix) ∧ V.cell? ⟨w.heap.size, 4, none⟩ = some (.string nm) ∧ V.cell? ⟨w.heap.size, 5, none⟩ = some (.slice a ks.len cap))
      (first | with_reducible exact S6 | with_reducible exact S5 | with_reducible exact S0)
      (first
        | (go_at_call 10; refine HCF2.out.mono ?_; rintro e w5 ⟨rfl, b5⟩; have HK5 : Hid (Kept (fun _ => True) W2 w5) := (Kept.drew _ _).trans (Kept.of_below b5 (fun c hc _ => hc)); have S5 := HSQ.out w5 HK5.out; clear b5)
        | (go_at_call 73; refine (HCM2.out w5 HK5.out).mono ?_; rintro e w6 ⟨rfl, b6⟩; have HK6 : Hid (Kept (fun _ => True) W2 w6) := HK5.out.trans (kt b6); have S6 := HSQ.out w6 HK6.out; clear b6))
    all_goals
      go_wp2_with fail
      go_meet
      case rel => exact ⟨rfl, HK6.out⟩
  case rest =>
    obtain ⟨rfl, kx⟩ := hcut
    rename World => wx
    have q1 := HQ1.out.kept kx trivial
    have q4 := HQ4.out.kept kx trivial
    have zx := kx.size
    have hz := HZ2.out
    have Bx : Below w.heap.size w wx := HB2.out.trans ((kx.below (fun _ _ => trivial) (Nat.le_refl _)).mono (by omega))
    have HBX := hide Bx
    have HQ := hide q4
    have HZX := hide (And.intro zx hz)
    obtain ⟨-, y0, yi, y1, y2, u0, ui, u1, u2⟩ := id q4
    clear Bx q4 kx zx hz xu xp x0 xi x1 x2 q1
    go_wp2_with fail
    obtain ⟨zx, hz⟩ := HZX.out
    refine bodyPost_ret (v := .agg #[.int .i64 0, .int .i64 0, .string ⟨#[]⟩, .slice none 0 0]) (by simp [results, Try.results40, go_sem, y0, yi, y1, y2]) rfl ⟨zeroN, rfl, ⟨rfl, rfl, rfl, trivial, trivial⟩, zeroN_ok _ _, ?_⟩
    refine (((HBX.out.setCell ?_ _).setCell ?_ _).setCell ?_ _).setCell ?_ _ <;> simp <;> omega

end Go.Proofs.Ytcnbnhoeobdbnaa

namespace Go.Proofs.Ytcnbnhoeobdbnaa
open Go.RowKit Go.Joins

set_option maxRecDepth 100000 in
set_option maxHeartbeats 4000000 in
/-- .. where the type is faulty. -/
theorem sopen_fault (c : Int) (pa : Option Addr) (pn pc : Nat) (k ix : Int) (nm : ByteArray) (a : Option Addr) (cap : Nat) (ks : Fo) (f : Int) (w : World)
    (hs : ks.Sl w (fun b => b < w.heap.size) a cap) (hflt : fltB k ix nm ks = true) :
    Calls Try.prog 40 #[schV c pa pn pc k ix nm a ks.len cap, .int .i64 f] w fun e W' => ∃ d : Nd, e = .returned d.v ∧ d.fo.sim zeroT ∧ d.Ok W' (fun c => w.heap.size ≤ c ∧ c < W'.heap.size) ∧ Below w.heap.size w W' := by
  unfold schV
  obtain ⟨W2, hW2⟩ : ∃ W2, (w.alloc (.cells #[.int .i64 c, .slice pa pn pc, .int .i64 k, .int .i64 ix, .string nm, .slice a ks.len cap] 51)).alloc (.cells #[.int .i64 0, .int .i64 0, .string ⟨#[]⟩, .slice none 0 0] 29) = W2 := ⟨_, rfl⟩
  have b2 : Below w.heap.size w W2 := by rw [← hW2]; exact below_alloc2 _ _ _
  have z2 : W2.heap.size = w.heap.size + 1 + 1 := by rw [← hW2]; simp
  have q1 : Box6 W2 w.heap.size (.int .i64 c) (.slice pa pn pc) (.int .i64 k) (.int .i64 ix) (.string nm) (.slice a ks.len cap) := by
    rw [← hW2]
    exact (Box6.new _ _ _ _ _ _ _ _).kept (Kept.alloc (fun _ => True) _ _) trivial
  have q4 : Box4 W2 (w.heap.size + 1) (.int .i64 0) (.int .i64 0) (.string ⟨#[]⟩) (.slice none 0 0) := by
    rw [← hW2]
    have := Box4.new (w.alloc (.cells #[.int .i64 c, .slice pa pn pc, .int .i64 k, .int .i64 ix, .string nm, .slice a ks.len cap] 51)) (.int .i64 0) (.int .i64 0) (.string ⟨#[]⟩) (.slice none 0 0) 29
    rwa [World.size_alloc] at this
  have HCF : Hid (∀ V, Kept (fun _ => True) W2 V → Calls Try.prog 10 #[.agg #[.int .i64 k, .int .i64 ix, .string nm, .slice a ks.len cap]] V fun e w' => ∃ v, e = .returned v ∧ (v = .bool true ∧ Below V.heap.size V w')) := fun V kV => by
    have h := sfault k ix nm a cap ks V (((hs.below b2 (fun _ x => x)).kept kV (fun b x => ⟨trivial, by omega⟩)).mono (fun b x => by have := kV.size; omega))
    unfold nodeV at h
    rw [hflt] at h
    exact h.mono (fun e w' h => ⟨_, h.1, rfl, h.2⟩)
  have HB2 := hide b2
  have HZ2 := hide z2
  have HQ1 := hide q1
  have HQ4 := hide q4
  obtain ⟨-, xu, xp, x0, xi, x1, x2, -, -, -, -, -, -⟩ := id q1
  clear b2 z2 q1 q4 hs hflt
  go_enter Try.func40, Try.ntmps40
  go_upto_region 1 with fail
  clear hW2
  go_cut [33] (fun s33 wx => s33 = .bool true ∧ Kept (fun _ => True) W2 wx)
  case first =>
    have k0 := HQ1.out
    have S0 : W2.drew.cell? ⟨w.heap.size, 0, none⟩ = some (.int .i64 c) ∧ W2.drew.cell? ⟨w.heap.size, 2, none⟩ = some (.int .i64 k) ∧ W2.drew.cell? ⟨w.heap.size, 3, none⟩ = some (.int .i64 ix) ∧ W2.drew.cell? ⟨w.heap.size, 4, none⟩ = some (.string nm) ∧ W2.drew.cell? ⟨w.heap.size, 5, none⟩ = some (.slice a ks.len cap) := ⟨xu, x0, xi, x1, x2⟩
    have HCF2 : Hid (Calls Try.prog 10 #[.agg #[.int .i64 k, .int .i64 ix, .string nm, .slice a ks.len cap]] W2.drew fun e w' => e = .returned (.bool true) ∧ Below W2.heap.size W2.drew w') := (HCF.out W2.drew (Kept.drew _ _)).mono (fun e w' ⟨v, h1, h2, h3⟩ => ⟨by rw [h1, h2], h3⟩)
    have HSQ : Hid (∀ V, Kept (fun _ => True) W2 V → V.cell? ⟨w.heap.size, 0, none⟩ = some (.int .i64 c) ∧ V.cell? ⟨w.heap.size, 2, none⟩ = some (.int .i64 k) ∧ V.cell? ⟨w.heap.size, 3, none⟩ = some (.int .i64 ix) ∧ V.cell? ⟨w.heap.size, 4, none⟩ = some (.string nm) ∧ V.cell? ⟨w.heap.size, 5, none⟩ = some (.slice a ks.len cap)) := fun V kV => by
      have q := HQ1.out.kept kV trivial
      exact ⟨q.cu, q.c0, q.ci, q.c1, q.c2⟩
    clear k0 HCF
    refine wp_region_held_drew (S := (fun V => V.cell? ⟨w.heap.size, 0, none⟩ = some (.int .i64 c) ∧ V.cell? ⟨w.heap.size, 2, none⟩ = some (.int .i64 k) ∧ V.cell? ⟨w.heap.size, 3, none⟩ = some (.int .i64 ix) ∧ V.cell? ⟨w.heap.size, 4, none⟩ = some (.string nm) ∧ V.cell? ⟨w.heap.size, 5, none⟩ = some (.slice a ks.len cap))) (by kernel_rfl) S0 (fun hHeld => ?_)
    refine' wpAnyH_take (i := 0) (oi := { dst := some 5, op := Op.fieldAddr 51 (Operand.tmp 2) 2, type := 0, pos := "l8_types.go:418", after := #[], guard := none }) (v := _) rfl (by kernel_rfl) (by kernel_rfl) (by kernel_rfl) (fun _ _ _ h => h) (Or.inl ⟨by kernel_rfl, ?hy0⟩) (by assumption) ?rest0
    case hy0 => (intro w hSw; (try dsimp only at hSw); go_simp; (try with_reducible rfl))
    try simp only [Act.put, List.setIfInBounds_toArray, List.set_cons_succ]
    refine' wpAnyH_take (i := 1) (oi := { dst := some 6, op := Op.load 29 (Operand.tmp 5), type := 29, pos := "l8_types.go:418", after := #[{ on := 0, ground := Ground.data }], guard := none }) (v := _) rfl (by kernel_rfl) (by kernel_rfl) (by kernel_rfl) (fun _ _ _ h => h) (Or.inl ⟨by kernel_rfl, ?hy1⟩) (by assumption) ?rest1
    case hy1 => (intro w hSw; (try dsimp only at hSw); go_simp; (try with_reducible rfl))
    try simp only [Act.put, List.setIfInBounds_toArray, List.set_cons_succ]
    refine wpAnyH_ready (rs := [2]) (by kernel_rfl) (by simp) ?_
    refine AllReadyH.cons (o := { dst := some 7, op := Op.call { callee := Callee.value (Operand.func 10), args := #[Operand.tmp 6], argTypes := #[29] }, type := 4, pos := "l8_types.go:418", after := #[{ on := 1, ground := Ground.data }], guard := none }) rfl (fun K hK => ?_) AllReadyH.nil
    go_simp
    refine HCF2.out.mono ?_
    rintro e w5 ⟨rfl, b5⟩
    have HK5 : Hid (Kept (fun _ => True) W2 w5) := (Kept.drew _ _).trans (Kept.of_below b5 (fun c hc _ => hc))
    have S5 := HSQ.out w5 HK5.out
    go_wp2_with fail
    refine hK.out _ _ S5 (fun hHeld => ?_)
    clear hK K b5
    try simp only [Act.put, List.setIfInBounds_toArray, List.set_cons_succ]
    refine' wpAnyH_take (i := 3) (oi := { dst := some 8, op := Op.move (Operand.tmp 7), type := 4, pos := "l8_types.go:418", after := #[{ on := 2, ground := Ground.data }, { on := 2, ground := Ground.chain }], guard := none }) (v := _) rfl (by kernel_rfl) (by kernel_rfl) (by kernel_rfl) (fun _ _ _ h => h) (Or.inl ⟨by kernel_rfl, ?hy3⟩) (by assumption) ?rest3
    case hy3 => (intro w hSw; (try dsimp only at hSw); go_simp; (try with_reducible rfl))
    try simp only [Act.put, List.setIfInBounds_toArray, List.set_cons_succ]
    refine wpAnyH_take (i := 4) (oi := { dst := some 9, op := Op.move (Operand.tmp 1), type := 2, pos := "l8_types.go:418", after := #[{ on := 3, ground := Ground.guard }], guard := some (3, false) }) (v := undef) rfl (by kernel_rfl) (by kernel_rfl) (by kernel_rfl) (fun _ _ _ h => h) (Or.inr ⟨by kernel_rfl, rfl⟩) (by assumption) ?rest4
    try simp only [Act.put, List.setIfInBounds_toArray, List.set_cons_succ]
    refine wpAnyH_take (i := 5) (oi := { dst := some 10, op := Op.binOp BinOp.lss 2 (Operand.tmp 9) (Operand.const (Value.int IntKind.i64 0)) 2, type := 4, pos := "l8_types.go:418", after := #[{ on := 4, ground := Ground.data }, { on := 3, ground := Ground.guard }], guard := some (3, false) }) (v := undef) rfl (by kernel_rfl) (by kernel_rfl) (by kernel_rfl) (fun _ _ _ h => h) (Or.inr ⟨by kernel_rfl, rfl⟩) (by assumption) ?rest5
    try simp only [Act.put, List.setIfInBounds_toArray, List.set_cons_succ]
    refine' wpAnyH_take (i := 6) (oi := { dst := some 11, op := Op.pick (Operand.tmp 8) (Operand.const (Value.bool true)) (Operand.tmp 10), type := 4, pos := "l8_types.go:418", after := #[{ on := 3, ground := Ground.data }, { on := 5, ground := Ground.data }], guard := none }) (v := _) rfl (by kernel_rfl) (by kernel_rfl) (by kernel_rfl) (fun _ _ _ h => h) (Or.inl ⟨by kernel_rfl, ?hy6⟩) (by assumption) ?rest6
    case hy6 => (intro w hSw; (try dsimp only at hSw); go_simp; (try with_reducible rfl))
    try simp only [Act.put, List.setIfInBounds_toArray, List.set_cons_succ]
    refine' wpAnyH_take (i := 7) (oi := { dst := some 12, op := Op.move (Operand.tmp 11), type := 4, pos := "l8_types.go:418", after := #[{ on := 6, ground := Ground.data }, { on := 3, ground := Ground.chain }], guard := none }) (v := _) rfl (by kernel_rfl) (by kernel_rfl) (by kernel_rfl) (fun _ _ _ h => h) (Or.inl ⟨by kernel_rfl, ?hy7⟩) (by assumption) ?rest7
    case hy7 => (intro w hSw; (try dsimp only at hSw); go_simp; (try with_reducible rfl))
    try simp only [Act.put, List.setIfInBounds_toArray, List.set_cons_succ]
    refine wpAnyH_take (i := 8) (oi := { dst := some 13, op := Op.move (Operand.tmp 1), type := 2, pos := "l8_types.go:418", after := #[{ on := 7, ground := Ground.guard }], guard := some (7, false) }) (v := undef) rfl (by kernel_rfl) (by kernel_rfl) (by kernel_rfl) (fun _ _ _ h => h) (Or.inr ⟨by kernel_rfl, rfl⟩) (by assumption) ?rest8
    try simp only [Act.put, List.setIfInBounds_toArray, List.set_cons_succ]
    refine wpAnyH_take (i := 9) (oi := { dst := some 14, op := Op.binOp BinOp.gtr 2 (Operand.tmp 13) (Operand.const (Value.int IntKind.i64 1099511627776)) 2, type := 4, pos := "l8_types.go:418", after := #[{ on := 8, ground := Ground.data }, { on := 7, ground := Ground.guard }], guard := some (7, false) }) (v := undef) rfl (by kernel_rfl) (by kernel_rfl) (by kernel_rfl) (fun _ _ _ h => h) (Or.inr ⟨by kernel_rfl, rfl⟩) (by assumption) ?rest9
    try simp only [Act.put, List.setIfInBounds_toArray, List.set_cons_succ]
    refine' wpAnyH_take (i := 10) (oi := { dst := some 15, op := Op.pick (Operand.tmp 12) (Operand.const (Value.bool true)) (Operand.tmp 14), type := 4, pos := "l8_types.go:418", after := #[{ on := 7, ground := Ground.data }, { on := 9, ground := Ground.data }], guard := none }) (v := _) rfl (by kernel_rfl) (by kernel_rfl) (by kernel_rfl) (fun _ _ _ h => h) (Or.inl ⟨by kernel_rfl, ?hy10⟩) (by assumption) ?rest10
    case hy10 => (intro w hSw; (try dsimp only at hSw); go_simp; (try with_reducible rfl))
    try simp only [Act.put, List.setIfInBounds_toArray, List.set_cons_succ]
    refine' wpAnyH_take (i := 11) (oi := { dst := some 16, op := Op.move (Operand.tmp 15), type := 4, pos := "l8_types.go:418", after := #[{ on := 10, ground := Ground.data }, { on := 7, ground := Ground.chain }], guard := none }) (v := _) rfl (by kernel_rfl) (by kernel_rfl) (by kernel_rfl) (fun _ _ _ h => h) (Or.inl ⟨by kernel_rfl, ?hy11⟩) (by assumption) ?rest11
    case hy11 => (intro w hSw; (try dsimp only at hSw); go_simp; (try with_reducible rfl))
    try simp only [Act.put, List.setIfInBounds_toArray, List.set_cons_succ]
    refine wpAnyH_take (i := 12) (oi := { dst := some 17, op := Op.fieldAddr 51 (Operand.tmp 2) 0, type := 0, pos := "l8_types.go:418", after := #[{ on := 11, ground := Ground.guard }], guard := some (11, false) }) (v := undef) rfl (by kernel_rfl) (by kernel_rfl) (by kernel_rfl) (fun _ _ _ h => h) (Or.inr ⟨by kernel_rfl, rfl⟩) (by assumption) ?rest12
    try simp only [Act.put, List.setIfInBounds_toArray, List.set_cons_succ]
    refine wpAnyH_take (i := 13) (oi := { dst := some 18, op := Op.load 2 (Operand.tmp 17), type := 2, pos := "l8_types.go:418", after := #[{ on := 12, ground := Ground.data }, { on := 11, ground := Ground.guard }], guard := some (11, false) }) (v := undef) rfl (by kernel_rfl) (by kernel_rfl) (by kernel_rfl) (fun _ _ _ h => h) (Or.inr ⟨by kernel_rfl, rfl⟩) (by assumption) ?rest13
    try simp only [Act.put, List.setIfInBounds_toArray, List.set_cons_succ]
    refine wpAnyH_take (i := 14) (oi := { dst := some 19, op := Op.binOp BinOp.lss 2 (Operand.tmp 18) (Operand.const (Value.int IntKind.i64 0)) 2, type := 4, pos := "l8_types.go:418", after := #[{ on := 13, ground := Ground.data }, { on := 11, ground := Ground.guard }], guard := some (11, false) }) (v := undef) rfl (by kernel_rfl) (by kernel_rfl) (by kernel_rfl) (fun _ _ _ h => h) (Or.inr ⟨by kernel_rfl, rfl⟩) (by assumption) ?rest14
    try simp only [Act.put, List.setIfInBounds_toArray, List.set_cons_succ]
    refine' wpAnyH_take (i := 15) (oi := { dst := some 20, op := Op.pick (Operand.tmp 16) (Operand.const (Value.bool true)) (Operand.tmp 19), type := 4, pos := "l8_types.go:418", after := #[{ on := 11, ground := Ground.data }, { on := 14, ground := Ground.data }], guard := none }) (v := _) rfl (by kernel_rfl) (by kernel_rfl) (by kernel_rfl) (fun _ _ _ h => h) (Or.inl ⟨by kernel_rfl, ?hy15⟩) (by assumption) ?rest15
    case hy15 => (intro w hSw; (try dsimp only at hSw); go_simp; (try with_reducible rfl))
    try simp only [Act.put, List.setIfInBounds_toArray, List.set_cons_succ]
    refine' wpAnyH_take (i := 16) (oi := { dst := some 21, op := Op.move (Operand.tmp 20), type := 4, pos := "l8_types.go:418", after := #[{ on := 15, ground := Ground.data }, { on := 11, ground := Ground.chain }], guard := none }) (v := _) rfl (by kernel_rfl) (by kernel_rfl) (by kernel_rfl) (fun _ _ _ h => h) (Or.inl ⟨by kernel_rfl, ?hy16⟩) (by assumption) ?rest16
    case hy16 => (intro w hSw; (try dsimp only at hSw); go_simp; (try with_reducible rfl))
    try simp only [Act.put, List.setIfInBounds_toArray, List.set_cons_succ]
    refine wpAnyH_take (i := 17) (oi := { dst := some 22, op := Op.fieldAddr 51 (Operand.tmp 2) 0, type := 0, pos := "l8_types.go:418", after := #[{ on := 16, ground := Ground.guard }], guard := some (16, false) }) (v := undef) rfl (by kernel_rfl) (by kernel_rfl) (by kernel_rfl) (fun _ _ _ h => h) (Or.inr ⟨by kernel_rfl, rfl⟩) (by assumption) ?rest17
    try simp only [Act.put, List.setIfInBounds_toArray, List.set_cons_succ]
    refine wpAnyH_take (i := 18) (oi := { dst := some 23, op := Op.load 2 (Operand.tmp 22), type := 2, pos := "l8_types.go:418", after := #[{ on := 17, ground := Ground.data }, { on := 16, ground := Ground.guard }], guard := some (16, false) }) (v := undef) rfl (by kernel_rfl) (by kernel_rfl) (by kernel_rfl) (fun _ _ _ h => h) (Or.inr ⟨by kernel_rfl, rfl⟩) (by assumption) ?rest18
    try simp only [Act.put, List.setIfInBounds_toArray, List.set_cons_succ]
    refine wpAnyH_take (i := 19) (oi := { dst := some 24, op := Op.binOp BinOp.gtr 2 (Operand.tmp 23) (Operand.const (Value.int IntKind.i64 1099511627776)) 2, type := 4, pos := "l8_types.go:418", after := #[{ on := 18, ground := Ground.data }, { on := 16, ground := Ground.guard }], guard := some (16, false) }) (v := undef) rfl (by kernel_rfl) (by kernel_rfl) (by kernel_rfl) (fun _ _ _ h => h) (Or.inr ⟨by kernel_rfl, rfl⟩) (by assumption) ?rest19
    try simp only [Act.put, List.setIfInBounds_toArray, List.set_cons_succ]
    refine' wpAnyH_take (i := 20) (oi := { dst := some 25, op := Op.pick (Operand.tmp 21) (Operand.const (Value.bool true)) (Operand.tmp 24), type := 4, pos := "l8_types.go:418", after := #[{ on := 16, ground := Ground.data }, { on := 19, ground := Ground.data }], guard := none }) (v := _) rfl (by kernel_rfl) (by kernel_rfl) (by kernel_rfl) (fun _ _ _ h => h) (Or.inl ⟨by kernel_rfl, ?hy20⟩) (by assumption) ?rest20
    case hy20 => (intro w hSw; (try dsimp only at hSw); go_simp; (try with_reducible rfl))
    try simp only [Act.put, List.setIfInBounds_toArray, List.set_cons_succ]
    refine' wpAnyH_take (i := 21) (oi := { dst := some 26, op := Op.move (Operand.tmp 25), type := 4, pos := "l8_types.go:418", after := #[{ on := 20, ground := Ground.data }, { on := 16, ground := Ground.chain }], guard := none }) (v := _) rfl (by kernel_rfl) (by kernel_rfl) (by kernel_rfl) (fun _ _ _ h => h) (Or.inl ⟨by kernel_rfl, ?hy21⟩) (by assumption) ?rest21
    case hy21 => (intro w hSw; (try dsimp only at hSw); go_simp; (try with_reducible rfl))
    try simp only [Act.put, List.setIfInBounds_toArray, List.set_cons_succ]
    refine wpAnyH_take (i := 22) (oi := { dst := some 27, op := Op.fieldAddr 51 (Operand.tmp 2) 2, type := 0, pos := "l8_types.go:418", after := #[{ on := 21, ground := Ground.guard }], guard := some (21, false) }) (v := undef) rfl (by kernel_rfl) (by kernel_rfl) (by kernel_rfl) (fun _ _ _ h => h) (Or.inr ⟨by kernel_rfl, rfl⟩) (by assumption) ?rest22
    try simp only [Act.put, List.setIfInBounds_toArray, List.set_cons_succ]
    refine wpAnyH_take (i := 23) (oi := { dst := some 28, op := Op.load 29 (Operand.tmp 27), type := 29, pos := "l8_types.go:418", after := #[{ on := 22, ground := Ground.data }, { on := 21, ground := Ground.guard }], guard := some (21, false) }) (v := undef) rfl (by kernel_rfl) (by kernel_rfl) (by kernel_rfl) (fun _ _ _ h => h) (Or.inr ⟨by kernel_rfl, rfl⟩) (by assumption) ?rest23
    try simp only [Act.put, List.setIfInBounds_toArray, List.set_cons_succ]
    refine wpAnyH_take (i := 25) (oi := { dst := some 30, op := Op.fieldAddr 51 (Operand.tmp 2) 0, type := 0, pos := "l8_types.go:418", after := #[{ on := 21, ground := Ground.guard }], guard := some (21, false) }) (v := undef) rfl (by kernel_rfl) (by kernel_rfl) (by kernel_rfl) (fun _ _ _ h => h) (Or.inr ⟨by kernel_rfl, rfl⟩) (by assumption) ?rest25
    try simp only [Act.put, List.setIfInBounds_toArray, List.set_cons_succ]
    refine wpAnyH_take (i := 26) (oi := { dst := some 31, op := Op.load 2 (Operand.tmp 30), type := 2, pos := "l8_types.go:418", after := #[{ on := 25, ground := Ground.data }, { on := 21, ground := Ground.guard }], guard := some (21, false) }) (v := undef) rfl (by kernel_rfl) (by kernel_rfl) (by kernel_rfl) (fun _ _ _ h => h) (Or.inr ⟨by kernel_rfl, rfl⟩) (by assumption) ?rest26
    try simp only [Act.put, List.setIfInBounds_toArray, List.set_cons_succ]
    refine wpAnyH_ready (rs := [24]) (by kernel_rfl) (by simp) ?_
    refine AllReadyH.cons (o := { dst := some 29, op := Op.call { callee := Callee.value (Operand.func 73), args := #[Operand.tmp 28], argTypes := #[29] }, type := 2, pos := "l8_types.go:418", after := #[{ on := 23, ground := Ground.data }, { on := 21, ground := Ground.chain }, { on := 21, ground := Ground.guard }], guard := some (21, false) }) rfl (fun K hK => ?_) AllReadyH.nil
    go_simp
    refine hK.out _ _ S5 (fun hHeld => ?_)
    clear hK K
    try simp only [Act.put, List.setIfInBounds_toArray, List.set_cons_succ]
    refine wpAnyH_take (i := 27) (oi := { dst := some 32, op := Op.binOp BinOp.geq 2 (Operand.tmp 29) (Operand.tmp 31) 2, type := 4, pos := "l8_types.go:418", after := #[{ on := 24, ground := Ground.data }, { on := 26, ground := Ground.data }, { on := 21, ground := Ground.guard }], guard := some (21, false) }) (v := undef) rfl (by kernel_rfl) (by kernel_rfl) (by kernel_rfl) (fun _ _ _ h => h) (Or.inr ⟨by kernel_rfl, rfl⟩) (by assumption) ?rest27
    try simp only [Act.put, List.setIfInBounds_toArray, List.set_cons_succ]
    refine' wpAnyH_take (i := 28) (oi := { dst := some 33, op := Op.pick (Operand.tmp 26) (Operand.const (Value.bool true)) (Operand.tmp 32), type := 4, pos := "l8_types.go:418", after := #[{ on := 21, ground := Ground.data }, { on := 27, ground := Ground.data }], guard := none }) (v := _) rfl (by kernel_rfl) (by kernel_rfl) (by kernel_rfl) (fun _ _ _ h => h) (Or.inl ⟨by kernel_rfl, ?hy28⟩) (by assumption) ?rest28
    case hy28 => (intro w hSw; (try dsimp only at hSw); go_simp; (try with_reducible rfl))
    try simp only [Act.put, List.setIfInBounds_toArray, List.set_cons_succ]
    refine wpAnyH_done (by kernel_rfl) ?_ _
    go_wp2_with fail
    go_meet
    case rel => exact ⟨rfl, HK5.out⟩
  case rest =>
    obtain ⟨rfl, kx⟩ := hcut
    rename World => wx
    have q1 := HQ1.out.kept kx trivial
    have q4 := HQ4.out.kept kx trivial
    have zx := kx.size
    have hz := HZ2.out
    have Bx : Below w.heap.size w wx := HB2.out.trans ((kx.below (fun _ _ => trivial) (Nat.le_refl _)).mono (by omega))
    have HBX := hide Bx
    have HQ := hide q4
    have HZX := hide (And.intro zx hz)
    obtain ⟨-, y0, yi, y1, y2, u0, ui, u1, u2⟩ := id q4
    clear Bx q4 kx zx hz xu xp x0 xi x1 x2 q1
    go_wp2_with fail
    obtain ⟨zx, hz⟩ := HZX.out
    refine bodyPost_ret (v := .agg #[.int .i64 0, .int .i64 0, .string ⟨#[]⟩, .slice none 0 0]) (by simp [results, Try.results40, go_sem, y0, yi, y1, y2]) rfl ⟨zeroN, rfl, ⟨rfl, rfl, rfl, trivial, trivial⟩, zeroN_ok _ _, ?_⟩
    refine (((HBX.out.setCell ?_ _).setCell ?_ _).setCell ?_ _).setCell ?_ _ <;> simp <;> omega

set_option maxRecDepth 100000 in
set_option maxHeartbeats 4000000 in
/-- .. where a number is out of its bounds. -/
theorem sopen_f0 (c : Int) (pa : Option Addr) (pn pc : Nat) (k ix : Int) (nm : ByteArray) (a : Option Addr) (cap : Nat) (ks : Fo) (f : Int) (w : World)
    (hs : ks.Sl w (fun b => b < w.heap.size) a cap) (hflt : fltB k ix nm ks = false) (h1 : f < 0) :
    Calls Try.prog 40 #[schV c pa pn pc k ix nm a ks.len cap, .int .i64 f] w fun e W' => ∃ d : Nd, e = .returned d.v ∧ d.fo.sim zeroT ∧ d.Ok W' (fun c => w.heap.size ≤ c ∧ c < W'.heap.size) ∧ Below w.heap.size w W' := by
  unfold schV
  obtain ⟨W2, hW2⟩ : ∃ W2, (w.alloc (.cells #[.int .i64 c, .slice pa pn pc, .int .i64 k, .int .i64 ix, .string nm, .slice a ks.len cap] 51)).alloc (.cells #[.int .i64 0, .int .i64 0, .string ⟨#[]⟩, .slice none 0 0] 29) = W2 := ⟨_, rfl⟩
  have b2 : Below w.heap.size w W2 := by rw [← hW2]; exact below_alloc2 _ _ _
  have z2 : W2.heap.size = w.heap.size + 1 + 1 := by rw [← hW2]; simp
  have q1 : Box6 W2 w.heap.size (.int .i64 c) (.slice pa pn pc) (.int .i64 k) (.int .i64 ix) (.string nm) (.slice a ks.len cap) := by
    rw [← hW2]
    exact (Box6.new _ _ _ _ _ _ _ _).kept (Kept.alloc (fun _ => True) _ _) trivial
  have q4 : Box4 W2 (w.heap.size + 1) (.int .i64 0) (.int .i64 0) (.string ⟨#[]⟩) (.slice none 0 0) := by
    rw [← hW2]
    have := Box4.new (w.alloc (.cells #[.int .i64 c, .slice pa pn pc, .int .i64 k, .int .i64 ix, .string nm, .slice a ks.len cap] 51)) (.int .i64 0) (.int .i64 0) (.string ⟨#[]⟩) (.slice none 0 0) 29
    rwa [World.size_alloc] at this
  have HCF : Hid (∀ V, Kept (fun _ => True) W2 V → Calls Try.prog 10 #[.agg #[.int .i64 k, .int .i64 ix, .string nm, .slice a ks.len cap]] V fun e w' => ∃ v, e = .returned v ∧ (v = .bool false ∧ Below V.heap.size V w')) := fun V kV => by
    have h := sfault k ix nm a cap ks V (((hs.below b2 (fun _ x => x)).kept kV (fun b x => ⟨trivial, by omega⟩)).mono (fun b x => by have := kV.size; omega))
    unfold nodeV at h
    rw [hflt] at h
    exact h.mono (fun e w' h => ⟨_, h.1, rfl, h.2⟩)
  have HB2 := hide b2
  have HZ2 := hide z2
  have HQ1 := hide q1
  have HQ4 := hide q4
  have d1 : decide (f < 0) = true := decide_eq_true h1
  obtain ⟨-, xu, xp, x0, xi, x1, x2, -, -, -, -, -, -⟩ := id q1
  clear b2 z2 q1 q4 hs hflt
  go_enter Try.func40, Try.ntmps40
  go_upto_region 1 with fail
  clear hW2
  go_cut [33] (fun s33 wx => s33 = .bool true ∧ Kept (fun _ => True) W2 wx)
  case first =>
    have k0 := HQ1.out
    have S0 : W2.drew.cell? ⟨w.heap.size, 0, none⟩ = some (.int .i64 c) ∧ W2.drew.cell? ⟨w.heap.size, 2, none⟩ = some (.int .i64 k) ∧ W2.drew.cell? ⟨w.heap.size, 3, none⟩ = some (.int .i64 ix) ∧ W2.drew.cell? ⟨w.heap.size, 4, none⟩ = some (.string nm) ∧ W2.drew.cell? ⟨w.heap.size, 5, none⟩ = some (.slice a ks.len cap) := ⟨xu, x0, xi, x1, x2⟩
    have HCF2 : Hid (Calls Try.prog 10 #[.agg #[.int .i64 k, .int .i64 ix, .string nm, .slice a ks.len cap]] W2.drew fun e w' => e = .returned (.bool false) ∧ Below W2.heap.size W2.drew w') := (HCF.out W2.drew (Kept.drew _ _)).mono (fun e w' ⟨v, h1, h2, h3⟩ => ⟨by rw [h1, h2], h3⟩)
    have HSQ : Hid (∀ V, Kept (fun _ => True) W2 V → V.cell? ⟨w.heap.size, 0, none⟩ = some (.int .i64 c) ∧ V.cell? ⟨w.heap.size, 2, none⟩ = some (.int .i64 k) ∧ V.cell? ⟨w.heap.size, 3, none⟩ = some (.int .i64 ix) ∧ V.cell? ⟨w.heap.size, 4, none⟩ = some (.string nm) ∧ V.cell? ⟨w.heap.size, 5, none⟩ = some (.slice a ks.len cap)) := fun V kV => by
      have q := HQ1.out.kept kV trivial
      exact ⟨q.cu, q.c0, q.ci, q.c1, q.c2⟩
    clear k0 HCF
    refine wp_region_held_drew (S := (fun V => V.cell? ⟨w.heap.size, 0, none⟩ = some (.int .i64 c) ∧ V.cell? ⟨w.heap.size, 2, none⟩ = some (.int .i64 k) ∧ V.cell? ⟨w.heap.size, 3, none⟩ = some (.int .i64 ix) ∧ V.cell? ⟨w.heap.size, 4, none⟩ = some (.string nm) ∧ V.cell? ⟨w.heap.size, 5, none⟩ = some (.slice a ks.len cap))) (by kernel_rfl) S0 (fun hHeld => ?_)
    refine' wpAnyH_take (i := 0) (oi := { dst := some 5, op := Op.fieldAddr 51 (Operand.tmp 2) 2, type := 0, pos := "l8_types.go:418", after := #[], guard := none }) (v := _) rfl (by kernel_rfl) (by kernel_rfl) (by kernel_rfl) (fun _ _ _ h => h) (Or.inl ⟨by kernel_rfl, ?hy0⟩) (by assumption) ?rest0
    case hy0 => (intro w hSw; (try dsimp only at hSw); go_simp; (try with_reducible rfl))
    try simp only [Act.put, List.setIfInBounds_toArray, List.set_cons_succ]
    refine' wpAnyH_take (i := 1) (oi := { dst := some 6, op := Op.load 29 (Operand.tmp 5), type := 29, pos := "l8_types.go:418", after := #[{ on := 0, ground := Ground.data }], guard := none }) (v := _) rfl (by kernel_rfl) (by kernel_rfl) (by kernel_rfl) (fun _ _ _ h => h) (Or.inl ⟨by kernel_rfl, ?hy1⟩) (by assumption) ?rest1
    case hy1 => (intro w hSw; (try dsimp only at hSw); go_simp; (try with_reducible rfl))
    try simp only [Act.put, List.setIfInBounds_toArray, List.set_cons_succ]
    refine wpAnyH_ready (rs := [2]) (by kernel_rfl) (by simp) ?_
    refine AllReadyH.cons (o := { dst := some 7, op := Op.call { callee := Callee.value (Operand.func 10), args := #[Operand.tmp 6], argTypes := #[29] }, type := 4, pos := "l8_types.go:418", after := #[{ on := 1, ground := Ground.data }], guard := none }) rfl (fun K hK => ?_) AllReadyH.nil
    go_simp
    refine HCF2.out.mono ?_
    rintro e w5 ⟨rfl, b5⟩
    have HK5 : Hid (Kept (fun _ => True) W2 w5) := (Kept.drew _ _).trans (Kept.of_below b5 (fun c hc _ => hc))
    have S5 := HSQ.out w5 HK5.out
    go_wp2_with fail
    refine hK.out _ _ S5 (fun hHeld => ?_)
    clear hK K b5
    try simp only [Act.put, List.setIfInBounds_toArray, List.set_cons_succ]
    refine' wpAnyH_take (i := 3) (oi := { dst := some 8, op := Op.move (Operand.tmp 7), type := 4, pos := "l8_types.go:418", after := #[{ on := 2, ground := Ground.data }, { on := 2, ground := Ground.chain }], guard := none }) (v := _) rfl (by kernel_rfl) (by kernel_rfl) (by kernel_rfl) (fun _ _ _ h => h) (Or.inl ⟨by kernel_rfl, ?hy3⟩) (by assumption) ?rest3
    case hy3 => (intro w hSw; (try dsimp only at hSw); go_simp; (try with_reducible rfl))
    try simp only [Act.put, List.setIfInBounds_toArray, List.set_cons_succ]
    refine' wpAnyH_take (i := 4) (oi := { dst := some 9, op := Op.move (Operand.tmp 1), type := 2, pos := "l8_types.go:418", after := #[{ on := 3, ground := Ground.guard }], guard := some (3, false) }) (v := _) rfl (by kernel_rfl) (by kernel_rfl) (by kernel_rfl) (fun _ _ _ h => h) (Or.inl ⟨by kernel_rfl, ?hy4⟩) (by assumption) ?rest4
    case hy4 => (intro w hSw; (try dsimp only at hSw); go_simp; (try with_reducible rfl))
    try simp only [Act.put, List.setIfInBounds_toArray, List.set_cons_succ]
    refine' wpAnyH_take (i := 5) (oi := { dst := some 10, op := Op.binOp BinOp.lss 2 (Operand.tmp 9) (Operand.const (Value.int IntKind.i64 0)) 2, type := 4, pos := "l8_types.go:418", after := #[{ on := 4, ground := Ground.data }, { on := 3, ground := Ground.guard }], guard := some (3, false) }) (v := .bool true) rfl (by kernel_rfl) (by kernel_rfl) (by kernel_rfl) (fun _ _ _ h => h) (Or.inl ⟨by kernel_rfl, ?hy5⟩) (by assumption) ?rest5
    case hy5 => (intro w hSw; (try dsimp only at hSw); go_simp; (try simp only [d1]); (try with_reducible rfl))
    try simp only [Act.put, List.setIfInBounds_toArray, List.set_cons_succ]
    refine' wpAnyH_take (i := 6) (oi := { dst := some 11, op := Op.pick (Operand.tmp 8) (Operand.const (Value.bool true)) (Operand.tmp 10), type := 4, pos := "l8_types.go:418", after := #[{ on := 3, ground := Ground.data }, { on := 5, ground := Ground.data }], guard := none }) (v := .bool true) rfl (by kernel_rfl) (by kernel_rfl) (by kernel_rfl) (fun _ _ _ h => h) (Or.inl ⟨by kernel_rfl, ?hy6⟩) (by assumption) ?rest6
    case hy6 => (intro w hSw; (try dsimp only at hSw); go_simp; (try with_reducible rfl))
    try simp only [Act.put, List.setIfInBounds_toArray, List.set_cons_succ]
    refine' wpAnyH_take (i := 7) (oi := { dst := some 12, op := Op.move (Operand.tmp 11), type := 4, pos := "l8_types.go:418", after := #[{ on := 6, ground := Ground.data }, { on := 3, ground := Ground.chain }], guard := none }) (v := .bool true) rfl (by kernel_rfl) (by kernel_rfl) (by kernel_rfl) (fun _ _ _ h => h) (Or.inl ⟨by kernel_rfl, ?hy7⟩) (by assumption) ?rest7
    case hy7 => (intro w hSw; (try dsimp only at hSw); go_simp; (try with_reducible rfl))
    try simp only [Act.put, List.setIfInBounds_toArray, List.set_cons_succ]
    refine wpAnyH_take (i := 8) (oi := { dst := some 13, op := Op.move (Operand.tmp 1), type := 2, pos := "l8_types.go:418", after := #[{ on := 7, ground := Ground.guard }], guard := some (7, false) }) (v := undef) rfl (by kernel_rfl) (by kernel_rfl) (by kernel_rfl) (fun _ _ _ h => h) (Or.inr ⟨by kernel_rfl, rfl⟩) (by assumption) ?rest8
    try simp only [Act.put, List.setIfInBounds_toArray, List.set_cons_succ]
    refine wpAnyH_take (i := 9) (oi := { dst := some 14, op := Op.binOp BinOp.gtr 2 (Operand.tmp 13) (Operand.const (Value.int IntKind.i64 1099511627776)) 2, type := 4, pos := "l8_types.go:418", after := #[{ on := 8, ground := Ground.data }, { on := 7, ground := Ground.guard }], guard := some (7, false) }) (v := undef) rfl (by kernel_rfl) (by kernel_rfl) (by kernel_rfl) (fun _ _ _ h => h) (Or.inr ⟨by kernel_rfl, rfl⟩) (by assumption) ?rest9
    try simp only [Act.put, List.setIfInBounds_toArray, List.set_cons_succ]
    refine' wpAnyH_take (i := 10) (oi := { dst := some 15, op := Op.pick (Operand.tmp 12) (Operand.const (Value.bool true)) (Operand.tmp 14), type := 4, pos := "l8_types.go:418", after := #[{ on := 7, ground := Ground.data }, { on := 9, ground := Ground.data }], guard := none }) (v := .bool true) rfl (by kernel_rfl) (by kernel_rfl) (by kernel_rfl) (fun _ _ _ h => h) (Or.inl ⟨by kernel_rfl, ?hy10⟩) (by assumption) ?rest10
    case hy10 => (intro w hSw; (try dsimp only at hSw); go_simp; (try with_reducible rfl))
    try simp only [Act.put, List.setIfInBounds_toArray, List.set_cons_succ]
    refine' wpAnyH_take (i := 11) (oi := { dst := some 16, op := Op.move (Operand.tmp 15), type := 4, pos := "l8_types.go:418", after := #[{ on := 10, ground := Ground.data }, { on := 7, ground := Ground.chain }], guard := none }) (v := .bool true) rfl (by kernel_rfl) (by kernel_rfl) (by kernel_rfl) (fun _ _ _ h => h) (Or.inl ⟨by kernel_rfl, ?hy11⟩) (by assumption) ?rest11
    case hy11 => (intro w hSw; (try dsimp only at hSw); go_simp; (try with_reducible rfl))
    try simp only [Act.put, List.setIfInBounds_toArray, List.set_cons_succ]
    refine wpAnyH_take (i := 12) (oi := { dst := some 17, op := Op.fieldAddr 51 (Operand.tmp 2) 0, type := 0, pos := "l8_types.go:418", after := #[{ on := 11, ground := Ground.guard }], guard := some (11, false) }) (v := undef) rfl (by kernel_rfl) (by kernel_rfl) (by kernel_rfl) (fun _ _ _ h => h) (Or.inr ⟨by kernel_rfl, rfl⟩) (by assumption) ?rest12
    try simp only [Act.put, List.setIfInBounds_toArray, List.set_cons_succ]
    refine wpAnyH_take (i := 13) (oi := { dst := some 18, op := Op.load 2 (Operand.tmp 17), type := 2, pos := "l8_types.go:418", after := #[{ on := 12, ground := Ground.data }, { on := 11, ground := Ground.guard }], guard := some (11, false) }) (v := undef) rfl (by kernel_rfl) (by kernel_rfl) (by kernel_rfl) (fun _ _ _ h => h) (Or.inr ⟨by kernel_rfl, rfl⟩) (by assumption) ?rest13
    try simp only [Act.put, List.setIfInBounds_toArray, List.set_cons_succ]
    refine wpAnyH_take (i := 14) (oi := { dst := some 19, op := Op.binOp BinOp.lss 2 (Operand.tmp 18) (Operand.const (Value.int IntKind.i64 0)) 2, type := 4, pos := "l8_types.go:418", after := #[{ on := 13, ground := Ground.data }, { on := 11, ground := Ground.guard }], guard := some (11, false) }) (v := undef) rfl (by kernel_rfl) (by kernel_rfl) (by kernel_rfl) (fun _ _ _ h => h) (Or.inr ⟨by kernel_rfl, rfl⟩) (by assumption) ?rest14
    try simp only [Act.put, List.setIfInBounds_toArray, List.set_cons_succ]
    refine' wpAnyH_take (i := 15) (oi := { dst := some 20, op := Op.pick (Operand.tmp 16) (Operand.const (Value.bool true)) (Operand.tmp 19), type := 4, pos := "l8_types.go:418", after := #[{ on := 11, ground := Ground.data }, { on := 14, ground := Ground.data }], guard := none }) (v := .bool true) rfl (by kernel_rfl) (by kernel_rfl) (by kernel_rfl) (fun _ _ _ h => h) (Or.inl ⟨by kernel_rfl, ?hy15⟩) (by assumption) ?rest15
    case hy15 => (intro w hSw; (try dsimp only at hSw); go_simp; (try with_reducible rfl))
    try simp only [Act.put, List.setIfInBounds_toArray, List.set_cons_succ]
    refine' wpAnyH_take (i := 16) (oi := { dst := some 21, op := Op.move (Operand.tmp 20), type := 4, pos := "l8_types.go:418", after := #[{ on := 15, ground := Ground.data }, { on := 11, ground := Ground.chain }], guard := none }) (v := .bool true) rfl (by kernel_rfl) (by kernel_rfl) (by kernel_rfl) (fun _ _ _ h => h) (Or.inl ⟨by kernel_rfl, ?hy16⟩) (by assumption) ?rest16
    case hy16 => (intro w hSw; (try dsimp only at hSw); go_simp; (try with_reducible rfl))
    try simp only [Act.put, List.setIfInBounds_toArray, List.set_cons_succ]
    refine wpAnyH_take (i := 17) (oi := { dst := some 22, op := Op.fieldAddr 51 (Operand.tmp 2) 0, type := 0, pos := "l8_types.go:418", after := #[{ on := 16, ground := Ground.guard }], guard := some (16, false) }) (v := undef) rfl (by kernel_rfl) (by kernel_rfl) (by kernel_rfl) (fun _ _ _ h => h) (Or.inr ⟨by kernel_rfl, rfl⟩) (by assumption) ?rest17
    try simp only [Act.put, List.setIfInBounds_toArray, List.set_cons_succ]
    refine wpAnyH_take (i := 18) (oi := { dst := some 23, op := Op.load 2 (Operand.tmp 22), type := 2, pos := "l8_types.go:418", after := #[{ on := 17, ground := Ground.data }, { on := 16, ground := Ground.guard }], guard := some (16, false) }) (v := undef) rfl (by kernel_rfl) (by kernel_rfl) (by kernel_rfl) (fun _ _ _ h => h) (Or.inr ⟨by kernel_rfl, rfl⟩) (by assumption) ?rest18
    try simp only [Act.put, List.setIfInBounds_toArray, List.set_cons_succ]
    refine wpAnyH_take (i := 19) (oi := { dst := some 24, op := Op.binOp BinOp.gtr 2 (Operand.tmp 23) (Operand.const (Value.int IntKind.i64 1099511627776)) 2, type := 4, pos := "l8_types.go:418", after := #[{ on := 18, ground := Ground.data }, { on := 16, ground := Ground.guard }], guard := some (16, false) }) (v := undef) rfl (by kernel_rfl) (by kernel_rfl) (by kernel_rfl) (fun _ _ _ h => h) (Or.inr ⟨by kernel_rfl, rfl⟩) (by assumption) ?rest19
    try simp only [Act.put, List.setIfInBounds_toArray, List.set_cons_succ]
    refine' wpAnyH_take (i := 20) (oi := { dst := some 25, op := Op.pick (Operand.tmp 21) (Operand.const (Value.bool true)) (Operand.tmp 24), type := 4, pos := "l8_types.go:418", after := #[{ on := 16, ground := Ground.data }, { on := 19, ground := Ground.data }], guard := none }) (v := .bool true) rfl (by kernel_rfl) (by kernel_rfl) (by kernel_rfl) (fun _ _ _ h => h) (Or.inl ⟨by kernel_rfl, ?hy20⟩) (by assumption) ?rest20
    case hy20 => (intro w hSw; (try dsimp only at hSw); go_simp; (try with_reducible rfl))
    try simp only [Act.put, List.setIfInBounds_toArray, List.set_cons_succ]
    refine' wpAnyH_take (i := 21) (oi := { dst := some 26, op := Op.move (Operand.tmp 25), type := 4, pos := "l8_types.go:418", after := #[{ on := 20, ground := Ground.data }, { on := 16, ground := Ground.chain }], guard := none }) (v := .bool true) rfl (by kernel_rfl) (by kernel_rfl) (by kernel_rfl) (fun _ _ _ h => h) (Or.inl ⟨by kernel_rfl, ?hy21⟩) (by assumption) ?rest21
    case hy21 => (intro w hSw; (try dsimp only at hSw); go_simp; (try with_reducible rfl))
    try simp only [Act.put, List.setIfInBounds_toArray, List.set_cons_succ]
    refine wpAnyH_take (i := 22) (oi := { dst := some 27, op := Op.fieldAddr 51 (Operand.tmp 2) 2, type := 0, pos := "l8_types.go:418", after := #[{ on := 21, ground := Ground.guard }], guard := some (21, false) }) (v := undef) rfl (by kernel_rfl) (by kernel_rfl) (by kernel_rfl) (fun _ _ _ h => h) (Or.inr ⟨by kernel_rfl, rfl⟩) (by assumption) ?rest22
    try simp only [Act.put, List.setIfInBounds_toArray, List.set_cons_succ]
    refine wpAnyH_take (i := 23) (oi := { dst := some 28, op := Op.load 29 (Operand.tmp 27), type := 29, pos := "l8_types.go:418", after := #[{ on := 22, ground := Ground.data }, { on := 21, ground := Ground.guard }], guard := some (21, false) }) (v := undef) rfl (by kernel_rfl) (by kernel_rfl) (by kernel_rfl) (fun _ _ _ h => h) (Or.inr ⟨by kernel_rfl, rfl⟩) (by assumption) ?rest23
    try simp only [Act.put, List.setIfInBounds_toArray, List.set_cons_succ]
    refine wpAnyH_take (i := 25) (oi := { dst := some 30, op := Op.fieldAddr 51 (Operand.tmp 2) 0, type := 0, pos := "l8_types.go:418", after := #[{ on := 21, ground := Ground.guard }], guard := some (21, false) }) (v := undef) rfl (by kernel_rfl) (by kernel_rfl) (by kernel_rfl) (fun _ _ _ h => h) (Or.inr ⟨by kernel_rfl, rfl⟩) (by assumption) ?rest25
    try simp only [Act.put, List.setIfInBounds_toArray, List.set_cons_succ]
    refine wpAnyH_take (i := 26) (oi := { dst := some 31, op := Op.load 2 (Operand.tmp 30), type := 2, pos := "l8_types.go:418", after := #[{ on := 25, ground := Ground.data }, { on := 21, ground := Ground.guard }], guard := some (21, false) }) (v := undef) rfl (by kernel_rfl) (by kernel_rfl) (by kernel_rfl) (fun _ _ _ h => h) (Or.inr ⟨by kernel_rfl, rfl⟩) (by assumption) ?rest26
    try simp only [Act.put, List.setIfInBounds_toArray, List.set_cons_succ]
    refine wpAnyH_ready (rs := [24]) (by kernel_rfl) (by simp) ?_
    refine AllReadyH.cons (o := { dst := some 29, op := Op.call { callee := Callee.value (Operand.func 73), args := #[Operand.tmp 28], argTypes := #[29] }, type := 2, pos := "l8_types.go:418", after := #[{ on := 23, ground := Ground.data }, { on := 21, ground := Ground.chain }, { on := 21, ground := Ground.guard }], guard := some (21, false) }) rfl (fun K hK => ?_) AllReadyH.nil
    go_simp
    refine hK.out _ _ S5 (fun hHeld => ?_)
    clear hK K
    try simp only [Act.put, List.setIfInBounds_toArray, List.set_cons_succ]
    refine wpAnyH_take (i := 27) (oi := { dst := some 32, op := Op.binOp BinOp.geq 2 (Operand.tmp 29) (Operand.tmp 31) 2, type := 4, pos := "l8_types.go:418", after := #[{ on := 24, ground := Ground.data }, { on := 26, ground := Ground.data }, { on := 21, ground := Ground.guard }], guard := some (21, false) }) (v := undef) rfl (by kernel_rfl) (by kernel_rfl) (by kernel_rfl) (fun _ _ _ h => h) (Or.inr ⟨by kernel_rfl, rfl⟩) (by assumption) ?rest27
    try simp only [Act.put, List.setIfInBounds_toArray, List.set_cons_succ]
    refine' wpAnyH_take (i := 28) (oi := { dst := some 33, op := Op.pick (Operand.tmp 26) (Operand.const (Value.bool true)) (Operand.tmp 32), type := 4, pos := "l8_types.go:418", after := #[{ on := 21, ground := Ground.data }, { on := 27, ground := Ground.data }], guard := none }) (v := .bool true) rfl (by kernel_rfl) (by kernel_rfl) (by kernel_rfl) (fun _ _ _ h => h) (Or.inl ⟨by kernel_rfl, ?hy28⟩) (by assumption) ?rest28
    case hy28 => (intro w hSw; (try dsimp only at hSw); go_simp; (try with_reducible rfl))
    try simp only [Act.put, List.setIfInBounds_toArray, List.set_cons_succ]
    refine wpAnyH_done (by kernel_rfl) ?_ _
    go_wp2_with fail
    go_meet
    case rel => exact ⟨rfl, HK5.out⟩
  case rest =>
    obtain ⟨rfl, kx⟩ := hcut
    rename World => wx
    have q1 := HQ1.out.kept kx trivial
    have q4 := HQ4.out.kept kx trivial
    have zx := kx.size
    have hz := HZ2.out
    have Bx : Below w.heap.size w wx := HB2.out.trans ((kx.below (fun _ _ => trivial) (Nat.le_refl _)).mono (by omega))
    have HBX := hide Bx
    have HQ := hide q4
    have HZX := hide (And.intro zx hz)
    obtain ⟨-, y0, yi, y1, y2, u0, ui, u1, u2⟩ := id q4
    clear Bx q4 kx zx hz xu xp x0 xi x1 x2 q1
    go_wp2_with fail
    obtain ⟨zx, hz⟩ := HZX.out
    refine bodyPost_ret (v := .agg #[.int .i64 0, .int .i64 0, .string ⟨#[]⟩, .slice none 0 0]) (by simp [results, Try.results40, go_sem, y0, yi, y1, y2]) rfl ⟨zeroN, rfl, ⟨rfl, rfl, rfl, trivial, trivial⟩, zeroN_ok _ _, ?_⟩
    refine (((HBX.out.setCell ?_ _).setCell ?_ _).setCell ?_ _).setCell ?_ _ <;> simp <;> omega

set_option maxRecDepth 100000 in
set_option maxHeartbeats 4000000 in
/-- .. where a number is out of its bounds. -/
theorem sopen_f1 (c : Int) (pa : Option Addr) (pn pc : Nat) (k ix : Int) (nm : ByteArray) (a : Option Addr) (cap : Nat) (ks : Fo) (f : Int) (w : World)
    (hs : ks.Sl w (fun b => b < w.heap.size) a cap) (hflt : fltB k ix nm ks = false) (h1 : ¬ f < 0) (h2 : 1099511627776 < f) :
    Calls Try.prog 40 #[schV c pa pn pc k ix nm a ks.len cap, .int .i64 f] w fun e W' => ∃ d : Nd, e = .returned d.v ∧ d.fo.sim zeroT ∧ d.Ok W' (fun c => w.heap.size ≤ c ∧ c < W'.heap.size) ∧ Below w.heap.size w W' := by
  unfold schV
  obtain ⟨W2, hW2⟩ : ∃ W2, (w.alloc (.cells #[.int .i64 c, .slice pa pn pc, .int .i64 k, .int .i64 ix, .string nm, .slice a ks.len cap] 51)).alloc (.cells #[.int .i64 0, .int .i64 0, .string ⟨#[]⟩, .slice none 0 0] 29) = W2 := ⟨_, rfl⟩
  have b2 : Below w.heap.size w W2 := by rw [← hW2]; exact below_alloc2 _ _ _
  have z2 : W2.heap.size = w.heap.size + 1 + 1 := by rw [← hW2]; simp
  have q1 : Box6 W2 w.heap.size (.int .i64 c) (.slice pa pn pc) (.int .i64 k) (.int .i64 ix) (.string nm) (.slice a ks.len cap) := by
    rw [← hW2]
    exact (Box6.new _ _ _ _ _ _ _ _).kept (Kept.alloc (fun _ => True) _ _) trivial
  have q4 : Box4 W2 (w.heap.size + 1) (.int .i64 0) (.int .i64 0) (.string ⟨#[]⟩) (.slice none 0 0) := by
    rw [← hW2]
    have := Box4.new (w.alloc (.cells #[.int .i64 c, .slice pa pn pc, .int .i64 k, .int .i64 ix, .string nm, .slice a ks.len cap] 51)) (.int .i64 0) (.int .i64 0) (.string ⟨#[]⟩) (.slice none 0 0) 29
    rwa [World.size_alloc] at this
  have HCF : Hid (∀ V, Kept (fun _ => True) W2 V → Calls Try.prog 10 #[.agg #[.int .i64 k, .int .i64 ix, .string nm, .slice a ks.len cap]] V fun e w' => ∃ v, e = .returned v ∧ (v = .bool false ∧ Below V.heap.size V w')) := fun V kV => by
    have h := sfault k ix nm a cap ks V (((hs.below b2 (fun _ x => x)).kept kV (fun b x => ⟨trivial, by omega⟩)).mono (fun b x => by have := kV.size; omega))
    unfold nodeV at h
    rw [hflt] at h
    exact h.mono (fun e w' h => ⟨_, h.1, rfl, h.2⟩)
  have HB2 := hide b2
  have HZ2 := hide z2
  have HQ1 := hide q1
  have HQ4 := hide q4
  have d1 : decide (f < 0) = false := decide_eq_false h1
  have d2 : decide (1099511627776 < f) = true := decide_eq_true h2
  obtain ⟨-, xu, xp, x0, xi, x1, x2, -, -, -, -, -, -⟩ := id q1
  clear b2 z2 q1 q4 hs hflt
  go_enter Try.func40, Try.ntmps40
  go_upto_region 1 with fail
  clear hW2
  go_cut [33] (fun s33 wx => s33 = .bool true ∧ Kept (fun _ => True) W2 wx)
  case first =>
    have k0 := HQ1.out
    have S0 : W2.drew.cell? ⟨w.heap.size, 0, none⟩ = some (.int .i64 c) ∧ W2.drew.cell? ⟨w.heap.size, 2, none⟩ = some (.int .i64 k) ∧ W2.drew.cell? ⟨w.heap.size, 3, none⟩ = some (.int .i64 ix) ∧ W2.drew.cell? ⟨w.heap.size, 4, none⟩ = some (.string nm) ∧ W2.drew.cell? ⟨w.heap.size, 5, none⟩ = some (.slice a ks.len cap) := ⟨xu, x0, xi, x1, x2⟩
    have HCF2 : Hid (Calls Try.prog 10 #[.agg #[.int .i64 k, .int .i64 ix, .string nm, .slice a ks.len cap]] W2.drew fun e w' => e = .returned (.bool false) ∧ Below W2.heap.size W2.drew w') := (HCF.out W2.drew (Kept.drew _ _)).mono (fun e w' ⟨v, h1, h2, h3⟩ => ⟨by rw [h1, h2], h3⟩)
    have HSQ : Hid (∀ V, Kept (fun _ => True) W2 V → V.cell? ⟨w.heap.size, 0, none⟩ = some (.int .i64 c) ∧ V.cell? ⟨w.heap.size, 2, none⟩ = some (.int .i64 k) ∧ V.cell? ⟨w.heap.size, 3, none⟩ = some (.int .i64 ix) ∧ V.cell? ⟨w.heap.size, 4, none⟩ = some (.string nm) ∧ V.cell? ⟨w.heap.size, 5, none⟩ = some (.slice a ks.len cap)) := fun V kV => by
      have q := HQ1.out.kept kV trivial
      exact ⟨q.cu, q.c0, q.ci, q.c1, q.c2⟩
    clear k0 HCF
    refine wp_region_held_drew (S := (fun V => V.cell? ⟨w.heap.size, 0, none⟩ = some (.int .i64 c) ∧ V.cell? ⟨w.heap.size, 2, none⟩ = some (.int .i64 k) ∧ V.cell? ⟨w.heap.size, 3, none⟩ = some (.int .i64 ix) ∧ V.cell? ⟨w.heap.size, 4, none⟩ = some (.string nm) ∧ V.cell? ⟨w.heap.size, 5, none⟩ = some (.slice a ks.len cap))) (by kernel_rfl) S0 (fun hHeld => ?_)
    refine' wpAnyH_take (i := 0) (oi := { dst := some 5, op := Op.fieldAddr 51 (Operand.tmp 2) 2, type := 0, pos := "l8_types.go:418", after := #[], guard := none }) (v := _) rfl (by kernel_rfl) (by kernel_rfl) (by kernel_rfl) (fun _ _ _ h => h) (Or.inl ⟨by kernel_rfl, ?hy0⟩) (by assumption) ?rest0
    case hy0 => (intro w hSw; (try dsimp only at hSw); go_simp; (try with_reducible rfl))
    try simp only [Act.put, List.setIfInBounds_toArray, List.set_cons_succ]
    refine' wpAnyH_take (i := 1) (oi := { dst := some 6, op := Op.load 29 (Operand.tmp 5), type := 29, pos := "l8_types.go:418", after := #[{ on := 0, ground := Ground.data }], guard := none }) (v := _) rfl (by kernel_rfl) (by kernel_rfl) (by kernel_rfl) (fun _ _ _ h => h) (Or.inl ⟨by kernel_rfl, ?hy1⟩) (by assumption) ?rest1
    case hy1 => (intro w hSw; (try dsimp only at hSw); go_simp; (try with_reducible rfl))
    try simp only [Act.put, List.setIfInBounds_toArray, List.set_cons_succ]
    refine wpAnyH_ready (rs := [2]) (by kernel_rfl) (by simp) ?_
    refine AllReadyH.cons (o := { dst := some 7, op := Op.call { callee := Callee.value (Operand.func 10), args := #[Operand.tmp 6], argTypes := #[29] }, type := 4, pos := "l8_types.go:418", after := #[{ on := 1, ground := Ground.data }], guard := none }) rfl (fun K hK => ?_) AllReadyH.nil
    go_simp
    refine HCF2.out.mono ?_
    rintro e w5 ⟨rfl, b5⟩
    have HK5 : Hid (Kept (fun _ => True) W2 w5) := (Kept.drew _ _).trans (Kept.of_below b5 (fun c hc _ => hc))
    have S5 := HSQ.out w5 HK5.out
    go_wp2_with fail
    refine hK.out _ _ S5 (fun hHeld => ?_)
    clear hK K b5
    try simp only [Act.put, List.setIfInBounds_toArray, List.set_cons_succ]
    refine' wpAnyH_take (i := 3) (oi := { dst := some 8, op := Op.move (Operand.tmp 7), type := 4, pos := "l8_types.go:418", after := #[{ on := 2, ground := Ground.data }, { on := 2, ground := Ground.chain }], guard := none }) (v := _) rfl (by kernel_rfl) (by kernel_rfl) (by kernel_rfl) (fun _ _ _ h => h) (Or.inl ⟨by kernel_rfl, ?hy3⟩) (by assumption) ?rest3
    case hy3 => (intro w hSw; (try dsimp only at hSw); go_simp; (try with_reducible rfl))
    try simp only [Act.put, List.setIfInBounds_toArray, List.set_cons_succ]
    refine' wpAnyH_take (i := 4) (oi := { dst := some 9, op := Op.move (Operand.tmp 1), type := 2, pos := "l8_types.go:418", after := #[{ on := 3, ground := Ground.guard }], guard := some (3, false) }) (v := _) rfl (by kernel_rfl) (by kernel_rfl) (by kernel_rfl) (fun _ _ _ h => h) (Or.inl ⟨by kernel_rfl, ?hy4⟩) (by assumption) ?rest4
    case hy4 => (intro w hSw; (try dsimp only at hSw); go_simp; (try with_reducible rfl))
    try simp only [Act.put, List.setIfInBounds_toArray, List.set_cons_succ]
    refine' wpAnyH_take (i := 5) (oi := { dst := some 10, op := Op.binOp BinOp.lss 2 (Operand.tmp 9) (Operand.const (Value.int IntKind.i64 0)) 2, type := 4, pos := "l8_types.go:418", after := #[{ on := 4, ground := Ground.data }, { on := 3, ground := Ground.guard }], guard := some (3, false) }) (v := .bool false) rfl (by kernel_rfl) (by kernel_rfl) (by kernel_rfl) (fun _ _ _ h => h) (Or.inl ⟨by kernel_rfl, ?hy5⟩) (by assumption) ?rest5
    case hy5 => (intro w hSw; (try dsimp only at hSw); go_simp; (try simp only [d1, d2]); (try with_reducible rfl))
    try simp only [Act.put, List.setIfInBounds_toArray, List.set_cons_succ]
    refine' wpAnyH_take (i := 6) (oi := { dst := some 11, op := Op.pick (Operand.tmp 8) (Operand.const (Value.bool true)) (Operand.tmp 10), type := 4, pos := "l8_types.go:418", after := #[{ on := 3, ground := Ground.data }, { on := 5, ground := Ground.data }], guard := none }) (v := .bool false) rfl (by kernel_rfl) (by kernel_rfl) (by kernel_rfl) (fun _ _ _ h => h) (Or.inl ⟨by kernel_rfl, ?hy6⟩) (by assumption) ?rest6
    case hy6 => (intro w hSw; (try dsimp only at hSw); go_simp; (try with_reducible rfl))
    try simp only [Act.put, List.setIfInBounds_toArray, List.set_cons_succ]
    refine' wpAnyH_take (i := 7) (oi := { dst := some 12, op := Op.move (Operand.tmp 11), type := 4, pos := "l8_types.go:418", after := #[{ on := 6, ground := Ground.data }, { on := 3, ground := Ground.chain }], guard := none }) (v := .bool false) rfl (by kernel_rfl) (by kernel_rfl) (by kernel_rfl) (fun _ _ _ h => h) (Or.inl ⟨by kernel_rfl, ?hy7⟩) (by assumption) ?rest7
    case hy7 => (intro w hSw; (try dsimp only at hSw); go_simp; (try with_reducible rfl))
    try simp only [Act.put, List.setIfInBounds_toArray, List.set_cons_succ]
    refine' wpAnyH_take (i := 8) (oi := { dst := some 13, op := Op.move (Operand.tmp 1), type := 2, pos := "l8_types.go:418", after := #[{ on := 7, ground := Ground.guard }], guard := some (7, false) }) (v := _) rfl (by kernel_rfl) (by kernel_rfl) (by kernel_rfl) (fun _ _ _ h => h) (Or.inl ⟨by kernel_rfl, ?hy8⟩) (by assumption) ?rest8
    case hy8 => (intro w hSw; (try dsimp only at hSw); go_simp; (try with_reducible rfl))
    try simp only [Act.put, List.setIfInBounds_toArray, List.set_cons_succ]
    refine' wpAnyH_take (i := 9) (oi := { dst := some 14, op := Op.binOp BinOp.gtr 2 (Operand.tmp 13) (Operand.const (Value.int IntKind.i64 1099511627776)) 2, type := 4, pos := "l8_types.go:418", after := #[{ on := 8, ground := Ground.data }, { on := 7, ground := Ground.guard }], guard := some (7, false) }) (v := .bool true) rfl (by kernel_rfl) (by kernel_rfl) (by kernel_rfl) (fun _ _ _ h => h) (Or.inl ⟨by kernel_rfl, ?hy9⟩) (by assumption) ?rest9
    case hy9 => (intro w hSw; (try dsimp only at hSw); go_simp; (try simp only [d1, d2]); (try with_reducible rfl))
    try simp only [Act.put, List.setIfInBounds_toArray, List.set_cons_succ]
    refine' wpAnyH_take (i := 10) (oi := { dst := some 15, op := Op.pick (Operand.tmp 12) (Operand.const (Value.bool true)) (Operand.tmp 14), type := 4, pos := "l8_types.go:418", after := #[{ on := 7, ground := Ground.data }, { on := 9, ground := Ground.data }], guard := none }) (v := .bool true) rfl (by kernel_rfl) (by kernel_rfl) (by kernel_rfl) (fun _ _ _ h => h) (Or.inl ⟨by kernel_rfl, ?hy10⟩) (by assumption) ?rest10
    case hy10 => (intro w hSw; (try dsimp only at hSw); go_simp; (try with_reducible rfl))
    try simp only [Act.put, List.setIfInBounds_toArray, List.set_cons_succ]
    refine' wpAnyH_take (i := 11) (oi := { dst := some 16, op := Op.move (Operand.tmp 15), type := 4, pos := "l8_types.go:418", after := #[{ on := 10, ground := Ground.data }, { on := 7, ground := Ground.chain }], guard := none }) (v := .bool true) rfl (by kernel_rfl) (by kernel_rfl) (by kernel_rfl) (fun _ _ _ h => h) (Or.inl ⟨by kernel_rfl, ?hy11⟩) (by assumption) ?rest11
    case hy11 => (intro w hSw; (try dsimp only at hSw); go_simp; (try with_reducible rfl))
    try simp only [Act.put, List.setIfInBounds_toArray, List.set_cons_succ]
    refine wpAnyH_take (i := 12) (oi := { dst := some 17, op := Op.fieldAddr 51 (Operand.tmp 2) 0, type := 0, pos := "l8_types.go:418", after := #[{ on := 11, ground := Ground.guard }], guard := some (11, false) }) (v := undef) rfl (by kernel_rfl) (by kernel_rfl) (by kernel_rfl) (fun _ _ _ h => h) (Or.inr ⟨by kernel_rfl, rfl⟩) (by assumption) ?rest12
    try simp only [Act.put, List.setIfInBounds_toArray, List.set_cons_succ]
    refine wpAnyH_take (i := 13) (oi := { dst := some 18, op := Op.load 2 (Operand.tmp 17), type := 2, pos := "l8_types.go:418", after := #[{ on := 12, ground := Ground.data }, { on := 11, ground := Ground.guard }], guard := some (11, false) }) (v := undef) rfl (by kernel_rfl) (by kernel_rfl) (by kernel_rfl) (fun _ _ _ h => h) (Or.inr ⟨by kernel_rfl, rfl⟩) (by assumption) ?rest13
    try simp only [Act.put, List.setIfInBounds_toArray, List.set_cons_succ]
    refine wpAnyH_take (i := 14) (oi := { dst := some 19, op := Op.binOp BinOp.lss 2 (Operand.tmp 18) (Operand.const (Value.int IntKind.i64 0)) 2, type := 4, pos := "l8_types.go:418", after := #[{ on := 13, ground := Ground.data }, { on := 11, ground := Ground.guard }], guard := some (11, false) }) (v := undef) rfl (by kernel_rfl) (by kernel_rfl) (by kernel_rfl) (fun _ _ _ h => h) (Or.inr ⟨by kernel_rfl, rfl⟩) (by assumption) ?rest14
    try simp only [Act.put, List.setIfInBounds_toArray, List.set_cons_succ]
    refine' wpAnyH_take (i := 15) (oi := { dst := some 20, op := Op.pick (Operand.tmp 16) (Operand.const (Value.bool true)) (Operand.tmp 19), type := 4, pos := "l8_types.go:418", after := #[{ on := 11, ground := Ground.data }, { on := 14, ground := Ground.data }], guard := none }) (v := .bool true) rfl (by kernel_rfl) (by kernel_rfl) (by kernel_rfl) (fun _ _ _ h => h) (Or.inl ⟨by kernel_rfl, ?hy15⟩) (by assumption) ?rest15
    case hy15 => (intro w hSw; (try dsimp only at hSw); go_simp; (try with_reducible rfl))
    try simp only [Act.put, List.setIfInBounds_toArray, List.set_cons_succ]
    refine' wpAnyH_take (i := 16) (oi := { dst := some 21, op := Op.move (Operand.tmp 20), type := 4, pos := "l8_types.go:418", after := #[{ on := 15, ground := Ground.data }, { on := 11, ground := Ground.chain }], guard := none }) (v := .bool true) rfl (by kernel_rfl) (by kernel_rfl) (by kernel_rfl) (fun _ _ _ h => h) (Or.inl ⟨by kernel_rfl, ?hy16⟩) (by assumption) ?rest16
    case hy16 => (intro w hSw; (try dsimp only at hSw); go_simp; (try with_reducible rfl))
    try simp only [Act.put, List.setIfInBounds_toArray, List.set_cons_succ]
    refine wpAnyH_take (i := 17) (oi := { dst := some 22, op := Op.fieldAddr 51 (Operand.tmp 2) 0, type := 0, pos := "l8_types.go:418", after := #[{ on := 16, ground := Ground.guard }], guard := some (16, false) }) (v := undef) rfl (by kernel_rfl) (by kernel_rfl) (by kernel_rfl) (fun _ _ _ h => h) (Or.inr ⟨by kernel_rfl, rfl⟩) (by assumption) ?rest17
    try simp only [Act.put, List.setIfInBounds_toArray, List.set_cons_succ]
    refine wpAnyH_take (i := 18) (oi := { dst := some 23, op := Op.load 2 (Operand.tmp 22), type := 2, pos := "l8_types.go:418", after := #[{ on := 17, ground := Ground.data }, { on := 16, ground := Ground.guard }], guard := some (16, false) }) (v := undef) rfl (by kernel_rfl) (by kernel_rfl) (by kernel_rfl) (fun _ _ _ h => h) (Or.inr ⟨by kernel_rfl, rfl⟩) (by assumption) ?rest18
    try simp only [Act.put, List.setIfInBounds_toArray, List.set_cons_succ]
    refine wpAnyH_take (i := 19) (oi := { dst := some 24, op := Op.binOp BinOp.gtr 2 (Operand.tmp 23) (Operand.const (Value.int IntKind.i64 1099511627776)) 2, type := 4, pos := "l8_types.go:418", after := #[{ on := 18, ground := Ground.data }, { on := 16, ground := Ground.guard }], guard := some (16, false) }) (v := undef) rfl (by kernel_rfl) (by kernel_rfl) (by kernel_rfl) (fun _ _ _ h => h) (Or.inr ⟨by kernel_rfl, rfl⟩) (by assumption) ?rest19
    try simp only [Act.put, List.setIfInBounds_toArray, List.set_cons_succ]
    refine' wpAnyH_take (i := 20) (oi := { dst := some 25, op := Op.pick (Operand.tmp 21) (Operand.const (Value.bool true)) (Operand.tmp 24), type := 4, pos := "l8_types.go:418", after := #[{ on := 16, ground := Ground.data }, { on := 19, ground := Ground.data }], guard := none }) (v := .bool true) rfl (by kernel_rfl) (by kernel_rfl) (by kernel_rfl) (fun _ _ _ h => h) (Or.inl ⟨by kernel_rfl, ?hy20⟩) (by assumption) ?rest20
    case hy20 => (intro w hSw; (try dsimp only at hSw); go_simp; (try with_reducible rfl))
    try simp only [Act.put, List.setIfInBounds_toArray, List.set_cons_succ]
    refine' wpAnyH_take (i := 21) (oi := { dst := some 26, op := Op.move (Operand.tmp 25), type := 4, pos := "l8_types.go:418", after := #[{ on := 20, ground := Ground.data }, { on := 16, ground := Ground.chain }], guard := none }) (v := .bool true) rfl (by kernel_rfl) (by kernel_rfl) (by kernel_rfl) (fun _ _ _ h => h) (Or.inl ⟨by kernel_rfl, ?hy21⟩) (by assumption) ?rest21
    case hy21 => (intro w hSw; (try dsimp only at hSw); go_simp; (try with_reducible rfl))
    try simp only [Act.put, List.setIfInBounds_toArray, List.set_cons_succ]
    refine wpAnyH_take (i := 22) (oi := { dst := some 27, op := Op.fieldAddr 51 (Operand.tmp 2) 2, type := 0, pos := "l8_types.go:418", after := #[{ on := 21, ground := Ground.guard }], guard := some (21, false) }) (v := undef) rfl (by kernel_rfl) (by kernel_rfl) (by kernel_rfl) (fun _ _ _ h => h) (Or.inr ⟨by kernel_rfl, rfl⟩) (by assumption) ?rest22
    try simp only [Act.put, List.setIfInBounds_toArray, List.set_cons_succ]
    refine wpAnyH_take (i := 23) (oi := { dst := some 28, op := Op.load 29 (Operand.tmp 27), type := 29, pos := "l8_types.go:418", after := #[{ on := 22, ground := Ground.data }, { on := 21, ground := Ground.guard }], guard := some (21, false) }) (v := undef) rfl (by kernel_rfl) (by kernel_rfl) (by kernel_rfl) (fun _ _ _ h => h) (Or.inr ⟨by kernel_rfl, rfl⟩) (by assumption) ?rest23
    try simp only [Act.put, List.setIfInBounds_toArray, List.set_cons_succ]
    refine wpAnyH_take (i := 25) (oi := { dst := some 30, op := Op.fieldAddr 51 (Operand.tmp 2) 0, type := 0, pos := "l8_types.go:418", after := #[{ on := 21, ground := Ground.guard }], guard := some (21, false) }) (v := undef) rfl (by kernel_rfl) (by kernel_rfl) (by kernel_rfl) (fun _ _ _ h => h) (Or.inr ⟨by kernel_rfl, rfl⟩) (by assumption) ?rest25
    try simp only [Act.put, List.setIfInBounds_toArray, List.set_cons_succ]
    refine wpAnyH_take (i := 26) (oi := { dst := some 31, op := Op.load 2 (Operand.tmp 30), type := 2, pos := "l8_types.go:418", after := #[{ on := 25, ground := Ground.data }, { on := 21, ground := Ground.guard }], guard := some (21, false) }) (v := undef) rfl (by kernel_rfl) (by kernel_rfl) (by kernel_rfl) (fun _ _ _ h => h) (Or.inr ⟨by kernel_rfl, rfl⟩) (by assumption) ?rest26
    try simp only [Act.put, List.setIfInBounds_toArray, List.set_cons_succ]
    refine wpAnyH_ready (rs := [24]) (by kernel_rfl) (by simp) ?_
    refine AllReadyH.cons (o := { dst := some 29, op := Op.call { callee := Callee.value (Operand.func 73), args := #[Operand.tmp 28], argTypes := #[29] }, type := 2, pos := "l8_types.go:418", after := #[{ on := 23, ground := Ground.data }, { on := 21, ground := Ground.chain }, { on := 21, ground := Ground.guard }], guard := some (21, false) }) rfl (fun K hK => ?_) AllReadyH.nil
    go_simp
    refine hK.out _ _ S5 (fun hHeld => ?_)
    clear hK K
    try simp only [Act.put, List.setIfInBounds_toArray, List.set_cons_succ]
    refine wpAnyH_take (i := 27) (oi := { dst := some 32, op := Op.binOp BinOp.geq 2 (Operand.tmp 29) (Operand.tmp 31) 2, type := 4, pos := "l8_types.go:418", after := #[{ on := 24, ground := Ground.data }, { on := 26, ground := Ground.data }, { on := 21, ground := Ground.guard }], guard := some (21, false) }) (v := undef) rfl (by kernel_rfl) (by kernel_rfl) (by kernel_rfl) (fun _ _ _ h => h) (Or.inr ⟨by kernel_rfl, rfl⟩) (by assumption) ?rest27
    try simp only [Act.put, List.setIfInBounds_toArray, List.set_cons_succ]
    refine' wpAnyH_take (i := 28) (oi := { dst := some 33, op := Op.pick (Operand.tmp 26) (Operand.const (Value.bool true)) (Operand.tmp 32), type := 4, pos := "l8_types.go:418", after := #[{ on := 21, ground := Ground.data }, { on := 27, ground := Ground.data }], guard := none }) (v := .bool true) rfl (by kernel_rfl) (by kernel_rfl) (by kernel_rfl) (fun _ _ _ h => h) (Or.inl ⟨by kernel_rfl, ?hy28⟩) (by assumption) ?rest28
    case hy28 => (intro w hSw; (try dsimp only at hSw); go_simp; (try with_reducible rfl))
    try simp only [Act.put, List.setIfInBounds_toArray, List.set_cons_succ]
    refine wpAnyH_done (by kernel_rfl) ?_ _
    go_wp2_with fail
    go_meet
    case rel => exact ⟨rfl, HK5.out⟩
  case rest =>
    obtain ⟨rfl, kx⟩ := hcut
    rename World => wx
    have q1 := HQ1.out.kept kx trivial
    have q4 := HQ4.out.kept kx trivial
    have zx := kx.size
    have hz := HZ2.out
    have Bx : Below w.heap.size w wx := HB2.out.trans ((kx.below (fun _ _ => trivial) (Nat.le_refl _)).mono (by omega))
    have HBX := hide Bx
    have HQ := hide q4
    have HZX := hide (And.intro zx hz)
    obtain ⟨-, y0, yi, y1, y2, u0, ui, u1, u2⟩ := id q4
    clear Bx q4 kx zx hz xu xp x0 xi x1 x2 q1
    go_wp2_with fail
    obtain ⟨zx, hz⟩ := HZX.out
    refine bodyPost_ret (v := .agg #[.int .i64 0, .int .i64 0, .string ⟨#[]⟩, .slice none 0 0]) (by simp [results, Try.results40, go_sem, y0, yi, y1, y2]) rfl ⟨zeroN, rfl, ⟨rfl, rfl, rfl, trivial, trivial⟩, zeroN_ok _ _, ?_⟩
    refine (((HBX.out.setCell ?_ _).setCell ?_ _).setCell ?_ _).setCell ?_ _ <;> simp <;> omega

set_option maxRecDepth 100000 in
set_option maxHeartbeats 4000000 in
/-- .. where a number is out of its bounds. -/
theorem sopen_c0 (c : Int) (pa : Option Addr) (pn pc : Nat) (k ix : Int) (nm : ByteArray) (a : Option Addr) (cap : Nat) (ks : Fo) (f : Int) (w : World)
    (hs : ks.Sl w (fun b => b < w.heap.size) a cap) (hflt : fltB k ix nm ks = false) (h1 : ¬ f < 0) (h2 : ¬ 1099511627776 < f) (h3 : c < 0) :
    Calls Try.prog 40 #[schV c pa pn pc k ix nm a ks.len cap, .int .i64 f] w fun e W' => ∃ d : Nd, e = .returned d.v ∧ d.fo.sim zeroT ∧ d.Ok W' (fun c => w.heap.size ≤ c ∧ c < W'.heap.size) ∧ Below w.heap.size w W' := by
  unfold schV
  obtain ⟨W2, hW2⟩ : ∃ W2, (w.alloc (.cells #[.int .i64 c, .slice pa pn pc, .int .i64 k, .int .i64 ix, .string nm, .slice a ks.len cap] 51)).alloc (.cells #[.int .i64 0, .int .i64 0, .string ⟨#[]⟩, .slice none 0 0] 29) = W2 := ⟨_, rfl⟩
  have b2 : Below w.heap.size w W2 := by rw [← hW2]; exact below_alloc2 _ _ _
  have z2 : W2.heap.size = w.heap.size + 1 + 1 := by rw [← hW2]; simp
  have q1 : Box6 W2 w.heap.size (.int .i64 c) (.slice pa pn pc) (.int .i64 k) (.int .i64 ix) (.string nm) (.slice a ks.len cap) := by
    rw [← hW2]
    exact (Box6.new _ _ _ _ _ _ _ _).kept (Kept.alloc (fun _ => True) _ _) trivial
  have q4 : Box4 W2 (w.heap.size + 1) (.int .i64 0) (.int .i64 0) (.string ⟨#[]⟩) (.slice none 0 0) := by
    rw [← hW2]
    have := Box4.new (w.alloc (.cells #[.int .i64 c, .slice pa pn pc, .int .i64 k, .int .i64 ix, .string nm, .slice a ks.len cap] 51)) (.int .i64 0) (.int .i64 0) (.string ⟨#[]⟩) (.slice none 0 0) 29
    rwa [World.size_alloc] at this
  have HCF : Hid (∀ V, Kept (fun _ => True) W2 V → Calls Try.prog 10 #[.agg #[.int .i64 k, .int .i64 ix, .string nm, .slice a ks.len cap]] V fun e w' => ∃ v, e = .returned v ∧ (v = .bool false ∧ Below V.heap.size V w')) := fun V kV => by
    have h := sfault k ix nm a cap ks V (((hs.below b2 (fun _ x => x)).kept kV (fun b x => ⟨trivial, by omega⟩)).mono (fun b x => by have := kV.size; omega))
    unfold nodeV at h
    rw [hflt] at h
    exact h.mono (fun e w' h => ⟨_, h.1, rfl, h.2⟩)
  have HB2 := hide b2
  have HZ2 := hide z2
  have HQ1 := hide q1
  have HQ4 := hide q4
  have d1 : decide (f < 0) = false := decide_eq_false h1
  have d2 : decide (1099511627776 < f) = false := decide_eq_false h2
  have d3 : decide (c < 0) = true := decide_eq_true h3
  obtain ⟨-, xu, xp, x0, xi, x1, x2, -, -, -, -, -, -⟩ := id q1
  clear b2 z2 q1 q4 hs hflt
  go_enter Try.func40, Try.ntmps40
  go_upto_region 1 with fail
  clear hW2
  go_cut [33] (fun s33 wx => s33 = .bool true ∧ Kept (fun _ => True) W2 wx)
  case first =>
    have k0 := HQ1.out
    have S0 : W2.drew.cell? ⟨w.heap.size, 0, none⟩ = some (.int .i64 c) ∧ W2.drew.cell? ⟨w.heap.size, 2, none⟩ = some (.int .i64 k) ∧ W2.drew.cell? ⟨w.heap.size, 3, none⟩ = some (.int .i64 ix) ∧ W2.drew.cell? ⟨w.heap.size, 4, none⟩ = some (.string nm) ∧ W2.drew.cell? ⟨w.heap.size, 5, none⟩ = some (.slice a ks.len cap) := ⟨xu, x0, xi, x1, x2⟩
    have HCF2 : Hid (Calls Try.prog 10 #[.agg #[.int .i64 k, .int .i64 ix, .string nm, .slice a ks.len cap]] W2.drew fun e w' => e = .returned (.bool false) ∧ Below W2.heap.size W2.drew w') := (HCF.out W2.drew (Kept.drew _ _)).mono (fun e w' ⟨v, h1, h2, h3⟩ => ⟨by rw [h1, h2], h3⟩)
    have HSQ : Hid (∀ V, Kept (fun _ => True) W2 V → V.cell? ⟨w.heap.size, 0, none⟩ = some (.int .i64 c) ∧ V.cell? ⟨w.heap.size, 2, none⟩ = some (.int .i64 k) ∧ V.cell? ⟨w.heap.size, 3, none⟩ = some (.int .i64 ix) ∧ V.cell? ⟨w.heap.size, 4, none⟩ = some (.string nm) ∧ V.cell? ⟨w.heap.size, 5, none⟩ = some (.slice a ks.len cap)) := fun V kV => by
      have q := HQ1.out.kept kV trivial
      exact ⟨q.cu, q.c0, q.ci, q.c1, q.c2⟩
    clear k0 HCF
    refine wp_region_held_drew (S := (fun V => V.cell? ⟨w.heap.size, 0, none⟩ = some (.int .i64 c) ∧ V.cell? ⟨w.heap.size, 2, none⟩ = some (.int .i64 k) ∧ V.cell? ⟨w.heap.size, 3, none⟩ = some (.int .i64 ix) ∧ V.cell? ⟨w.heap.size, 4, none⟩ = some (.string nm) ∧ V.cell? ⟨w.heap.size, 5, none⟩ = some (.slice a ks.len cap))) (by kernel_rfl) S0 (fun hHeld => ?_)
    refine' wpAnyH_take (i := 0) (oi := { dst := some 5, op := Op.fieldAddr 51 (Operand.tmp 2) 2, type := 0, pos := "l8_types.go:418", after := #[], guard := none }) (v := _) rfl (by kernel_rfl) (by kernel_rfl) (by kernel_rfl) (fun _ _ _ h => h) (Or.inl ⟨by kernel_rfl, ?hy0⟩) (by assumption) ?rest0
    case hy0 => (intro w hSw; (try dsimp only at hSw); go_simp; (try with_reducible rfl))
    try simp only [Act.put, List.setIfInBounds_toArray, List.set_cons_succ]
    refine' wpAnyH_take (i := 1) (oi := { dst := some 6, op := Op.load 29 (Operand.tmp 5), type := 29, pos := "l8_types.go:418", after := #[{ on := 0, ground := Ground.data }], guard := none }) (v := _) rfl (by kernel_rfl) (by kernel_rfl) (by kernel_rfl) (fun _ _ _ h => h) (Or.inl ⟨by kernel_rfl, ?hy1⟩) (by assumption) ?rest1
    case hy1 => (intro w hSw; (try dsimp only at hSw); go_simp; (try with_reducible rfl))
    try simp only [Act.put, List.setIfInBounds_toArray, List.set_cons_succ]
    refine wpAnyH_ready (rs := [2]) (by kernel_rfl) (by simp) ?_
    refine AllReadyH.cons (o := { dst := some 7, op := Op.call { callee := Callee.value (Operand.func 10), args := #[Operand.tmp 6], argTypes := #[29] }, type := 4, pos := "l8_types.go:418", after := #[{ on := 1, ground := Ground.data }], guard := none }) rfl (fun K hK => ?_) AllReadyH.nil
    go_simp
    refine HCF2.out.mono ?_
    rintro e w5 ⟨rfl, b5⟩
    have HK5 : Hid (Kept (fun _ => True) W2 w5) := (Kept.drew _ _).trans (Kept.of_below b5 (fun c hc _ => hc))
    have S5 := HSQ.out w5 HK5.out
    go_wp2_with fail
    refine hK.out _ _ S5 (fun hHeld => ?_)
    clear hK K b5
    try simp only [Act.put, List.setIfInBounds_toArray, List.set_cons_succ]
    refine' wpAnyH_take (i := 3) (oi := { dst := some 8, op := Op.move (Operand.tmp 7), type := 4, pos := "l8_types.go:418", after := #[{ on := 2, ground := Ground.data }, { on := 2, ground := Ground.chain }], guard := none }) (v := _) rfl (by kernel_rfl) (by kernel_rfl) (by kernel_rfl) (fun _ _ _ h => h) (Or.inl ⟨by kernel_rfl, ?hy3⟩) (by assumption) ?rest3
    case hy3 => (intro w hSw; (try dsimp only at hSw); go_simp; (try with_reducible rfl))
    try simp only [Act.put, List.setIfInBounds_toArray, List.set_cons_succ]
    refine' wpAnyH_take (i := 4) (oi := { dst := some 9, op := Op.move (Operand.tmp 1), type := 2, pos := "l8_types.go:418", after := #[{ on := 3, ground := Ground.guard }], guard := some (3, false) }) (v := _) rfl (by kernel_rfl) (by kernel_rfl) (by kernel_rfl) (fun _ _ _ h => h) (Or.inl ⟨by kernel_rfl, ?hy4⟩) (by assumption) ?rest4
    case hy4 => (intro w hSw; (try dsimp only at hSw); go_simp; (try with_reducible rfl))
    try simp only [Act.put, List.setIfInBounds_toArray, List.set_cons_succ]
    refine' wpAnyH_take (i := 5) (oi := { dst := some 10, op := Op.binOp BinOp.lss 2 (Operand.tmp 9) (Operand.const (Value.int IntKind.i64 0)) 2, type := 4, pos := "l8_types.go:418", after := #[{ on := 4, ground := Ground.data }, { on := 3, ground := Ground.guard }], guard := some (3, false) }) (v := .bool false) rfl (by kernel_rfl) (by kernel_rfl) (by kernel_rfl) (fun _ _ _ h => h) (Or.inl ⟨by kernel_rfl, ?hy5⟩) (by assumption) ?rest5
    case hy5 => (intro w hSw; (try dsimp only at hSw); go_simp; (try simp only [d1, d2, d3]); (try with_reducible rfl))
    try simp only [Act.put, List.setIfInBounds_toArray, List.set_cons_succ]
    refine' wpAnyH_take (i := 6) (oi := { dst := some 11, op := Op.pick (Operand.tmp 8) (Operand.const (Value.bool true)) (Operand.tmp 10), type := 4, pos := "l8_types.go:418", after := #[{ on := 3, ground := Ground.data }, { on := 5, ground := Ground.data }], guard := none }) (v := .bool false) rfl (by kernel_rfl) (by kernel_rfl) (by kernel_rfl) (fun _ _ _ h => h) (Or.inl ⟨by kernel_rfl, ?hy6⟩) (by assumption) ?rest6
    case hy6 => (intro w hSw; (try dsimp only at hSw); go_simp; (try with_reducible rfl))
    try simp only [Act.put, List.setIfInBounds_toArray, List.set_cons_succ]
    refine' wpAnyH_take (i := 7) (oi := { dst := some 12, op := Op.move (Operand.tmp 11), type := 4, pos := "l8_types.go:418", after := #[{ on := 6, ground := Ground.data }, { on := 3, ground := Ground.chain }], guard := none }) (v := .bool false) rfl (by kernel_rfl) (by kernel_rfl) (by kernel_rfl) (fun _ _ _ h => h) (Or.inl ⟨by kernel_rfl, ?hy7⟩) (by assumption) ?rest7
    case hy7 => (intro w hSw; (try dsimp only at hSw); go_simp; (try with_reducible rfl))
    try simp only [Act.put, List.setIfInBounds_toArray, List.set_cons_succ]
    refine' wpAnyH_take (i := 8) (oi := { dst := some 13, op := Op.move (Operand.tmp 1), type := 2, pos := "l8_types.go:418", after := #[{ on := 7, ground := Ground.guard }], guard := some (7, false) }) (v := _) rfl (by kernel_rfl) (by kernel_rfl) (by kernel_rfl) (fun _ _ _ h => h) (Or.inl ⟨by kernel_rfl, ?hy8⟩) (by assumption) ?rest8
    case hy8 => (intro w hSw; (try dsimp only at hSw); go_simp; (try with_reducible rfl))
    try simp only [Act.put, List.setIfInBounds_toArray, List.set_cons_succ]
    refine' wpAnyH_take (i := 9) (oi := { dst := some 14, op := Op.binOp BinOp.gtr 2 (Operand.tmp 13) (Operand.const (Value.int IntKind.i64 1099511627776)) 2, type := 4, pos := "l8_types.go:418", after := #[{ on := 8, ground := Ground.data }, { on := 7, ground := Ground.guard }], guard := some (7, false) }) (v := .bool false) rfl (by kernel_rfl) (by kernel_rfl) (by kernel_rfl) (fun _ _ _ h => h) (Or.inl ⟨by kernel_rfl, ?hy9⟩) (by assumption) ?rest9
    case hy9 => (intro w hSw; (try dsimp only at hSw); go_simp; (try simp only [d1, d2, d3]); (try with_reducible rfl))
    try simp only [Act.put, List.setIfInBounds_toArray, List.set_cons_succ]
    refine' wpAnyH_take (i := 10) (oi := { dst := some 15, op := Op.pick (Operand.tmp 12) (Operand.const (Value.bool true)) (Operand.tmp 14), type := 4, pos := "l8_types.go:418", after := #[{ on := 7, ground := Ground.data }, { on := 9, ground := Ground.data }], guard := none }) (v := .bool false) rfl (by kernel_rfl) (by kernel_rfl) (by kernel_rfl) (fun _ _ _ h => h) (Or.inl ⟨by kernel_rfl, ?hy10⟩) (by assumption) ?rest10
    case hy10 => (intro w hSw; (try dsimp only at hSw); go_simp; (try with_reducible rfl))
    try simp only [Act.put, List.setIfInBounds_toArray, List.set_cons_succ]
    refine' wpAnyH_take (i := 11) (oi := { dst := some 16, op := Op.move (Operand.tmp 15), type := 4, pos := "l8_types.go:418", after := #[{ on := 10, ground := Ground.data }, { on := 7, ground := Ground.chain }], guard := none }) (v := .bool false) rfl (by kernel_rfl) (by kernel_rfl) (by kernel_rfl) (fun _ _ _ h => h) (Or.inl ⟨by kernel_rfl, ?hy11⟩) (by assumption) ?rest11
    case hy11 => (intro w hSw; (try dsimp only at hSw); go_simp; (try with_reducible rfl))
    try simp only [Act.put, List.setIfInBounds_toArray, List.set_cons_succ]
    refine' wpAnyH_take (i := 12) (oi := { dst := some 17, op := Op.fieldAddr 51 (Operand.tmp 2) 0, type := 0, pos := "l8_types.go:418", after := #[{ on := 11, ground := Ground.guard }], guard := some (11, false) }) (v := _) rfl (by kernel_rfl) (by kernel_rfl) (by kernel_rfl) (fun _ _ _ h => h) (Or.inl ⟨by kernel_rfl, ?hy12⟩) (by assumption) ?rest12
    case hy12 => (intro w hSw; (try dsimp only at hSw); go_simp; (try with_reducible rfl))
    try simp only [Act.put, List.setIfInBounds_toArray, List.set_cons_succ]
    refine' wpAnyH_take (i := 13) (oi := { dst := some 18, op := Op.load 2 (Operand.tmp 17), type := 2, pos := "l8_types.go:418", after := #[{ on := 12, ground := Ground.data }, { on := 11, ground := Ground.guard }], guard := some (11, false) }) (v := _) rfl (by kernel_rfl) (by kernel_rfl) (by kernel_rfl) (fun _ _ _ h => h) (Or.inl ⟨by kernel_rfl, ?hy13⟩) (by assumption) ?rest13
    case hy13 => (intro w hSw; (try dsimp only at hSw); go_simp; (try with_reducible rfl))
    try simp only [Act.put, List.setIfInBounds_toArray, List.set_cons_succ]
    refine' wpAnyH_take (i := 14) (oi := { dst := some 19, op := Op.binOp BinOp.lss 2 (Operand.tmp 18) (Operand.const (Value.int IntKind.i64 0)) 2, type := 4, pos := "l8_types.go:418", after := #[{ on := 13, ground := Ground.data }, { on := 11, ground := Ground.guard }], guard := some (11, false) }) (v := .bool true) rfl (by kernel_rfl) (by kernel_rfl) (by kernel_rfl) (fun _ _ _ h => h) (Or.inl ⟨by kernel_rfl, ?hy14⟩) (by assumption) ?rest14
    case hy14 => (intro w hSw; (try dsimp only at hSw); go_simp; (try simp only [d1, d2, d3]); (try with_reducible rfl))
    try simp only [Act.put, List.setIfInBounds_toArray, List.set_cons_succ]
    refine' wpAnyH_take (i := 15) (oi := { dst := some 20, op := Op.pick (Operand.tmp 16) (Operand.const (Value.bool true)) (Operand.tmp 19), type := 4, pos := "l8_types.go:418", after := #[{ on := 11, ground := Ground.data }, { on := 14, ground := Ground.data }], guard := none }) (v := .bool true) rfl (by kernel_rfl) (by kernel_rfl) (by kernel_rfl) (fun _ _ _ h => h) (Or.inl ⟨by kernel_rfl, ?hy15⟩) (by assumption) ?rest15
    case hy15 => (intro w hSw; (try dsimp only at hSw); go_simp; (try with_reducible rfl))
    try simp only [Act.put, List.setIfInBounds_toArray, List.set_cons_succ]
    refine' wpAnyH_take (i := 16) (oi := { dst := some 21, op := Op.move (Operand.tmp 20), type := 4, pos := "l8_types.go:418", after := #[{ on := 15, ground := Ground.data }, { on := 11, ground := Ground.chain }], guard := none }) (v := .bool true) rfl (by kernel_rfl) (by kernel_rfl) (by kernel_rfl) (fun _ _ _ h => h) (Or.inl ⟨by kernel_rfl, ?hy16⟩) (by assumption) ?rest16
    case hy16 => (intro w hSw; (try dsimp only at hSw); go_simp; (try with_reducible rfl))
    try simp only [Act.put, List.setIfInBounds_toArray, List.set_cons_succ]
    refine wpAnyH_take (i := 17) (oi := { dst := some 22, op := Op.fieldAddr 51 (Operand.tmp 2) 0, type := 0, pos := "l8_types.go:418", after := #[{ on := 16, ground := Ground.guard }], guard := some (16, false) }) (v := undef) rfl (by kernel_rfl) (by kernel_rfl) (by kernel_rfl) (fun _ _ _ h => h) (Or.inr ⟨by kernel_rfl, rfl⟩) (by assumption) ?rest17
    try simp only [Act.put, List.setIfInBounds_toArray, List.set_cons_succ]
    refine wpAnyH_take (i := 18) (oi := { dst := some 23, op := Op.load 2 (Operand.tmp 22), type := 2, pos := "l8_types.go:418", after := #[{ on := 17, ground := Ground.data }, { on := 16, ground := Ground.guard }], guard := some (16, false) }) (v := undef) rfl (by kernel_rfl) (by kernel_rfl) (by kernel_rfl) (fun _ _ _ h => h) (Or.inr ⟨by kernel_rfl, rfl⟩) (by assumption) ?rest18
    try simp only [Act.put, List.setIfInBounds_toArray, List.set_cons_succ]
    refine wpAnyH_take (i := 19) (oi := { dst := some 24, op := Op.binOp BinOp.gtr 2 (Operand.tmp 23) (Operand.const (Value.int IntKind.i64 1099511627776)) 2, type := 4, pos := "l8_types.go:418", after := #[{ on := 18, ground := Ground.data }, { on := 16, ground := Ground.guard }], guard := some (16, false) }) (v := undef) rfl (by kernel_rfl) (by kernel_rfl) (by kernel_rfl) (fun _ _ _ h => h) (Or.inr ⟨by kernel_rfl, rfl⟩) (by assumption) ?rest19
    try simp only [Act.put, List.setIfInBounds_toArray, List.set_cons_succ]
    refine' wpAnyH_take (i := 20) (oi := { dst := some 25, op := Op.pick (Operand.tmp 21) (Operand.const (Value.bool true)) (Operand.tmp 24), type := 4, pos := "l8_types.go:418", after := #[{ on := 16, ground := Ground.data }, { on := 19, ground := Ground.data }], guard := none }) (v := .bool true) rfl (by kernel_rfl) (by kernel_rfl) (by kernel_rfl) (fun _ _ _ h => h) (Or.inl ⟨by kernel_rfl, ?hy20⟩) (by assumption) ?rest20
    case hy20 => (intro w hSw; (try dsimp only at hSw); go_simp; (try with_reducible rfl))
    try simp only [Act.put, List.setIfInBounds_toArray, List.set_cons_succ]
    refine' wpAnyH_take (i := 21) (oi := { dst := some 26, op := Op.move (Operand.tmp 25), type := 4, pos := "l8_types.go:418", after := #[{ on := 20, ground := Ground.data }, { on := 16, ground := Ground.chain }], guard := none }) (v := .bool true) rfl (by kernel_rfl) (by kernel_rfl) (by kernel_rfl) (fun _ _ _ h => h) (Or.inl ⟨by kernel_rfl, ?hy21⟩) (by assumption) ?rest21
    case hy21 => (intro w hSw; (try dsimp only at hSw); go_simp; (try with_reducible rfl))
    try simp only [Act.put, List.setIfInBounds_toArray, List.set_cons_succ]
    refine wpAnyH_take (i := 22) (oi := { dst := some 27, op := Op.fieldAddr 51 (Operand.tmp 2) 2, type := 0, pos := "l8_types.go:418", after := #[{ on := 21, ground := Ground.guard }], guard := some (21, false) }) (v := undef) rfl (by kernel_rfl) (by kernel_rfl) (by kernel_rfl) (fun _ _ _ h => h) (Or.inr ⟨by kernel_rfl, rfl⟩) (by assumption) ?rest22
    try simp only [Act.put, List.setIfInBounds_toArray, List.set_cons_succ]
    refine wpAnyH_take (i := 23) (oi := { dst := some 28, op := Op.load 29 (Operand.tmp 27), type := 29, pos := "l8_types.go:418", after := #[{ on := 22, ground := Ground.data }, { on := 21, ground := Ground.guard }], guard := some (21, false) }) (v := undef) rfl (by kernel_rfl) (by kernel_rfl) (by kernel_rfl) (fun _ _ _ h => h) (Or.inr ⟨by kernel_rfl, rfl⟩) (by assumption) ?rest23
    try simp only [Act.put, List.setIfInBounds_toArray, List.set_cons_succ]
    refine wpAnyH_take (i := 25) (oi := { dst := some 30, op := Op.fieldAddr 51 (Operand.tmp 2) 0, type := 0, pos := "l8_types.go:418", after := #[{ on := 21, ground := Ground.guard }], guard := some (21, false) }) (v := undef) rfl (by kernel_rfl) (by kernel_rfl) (by kernel_rfl) (fun _ _ _ h => h) (Or.inr ⟨by kernel_rfl, rfl⟩) (by assumption) ?rest25
    try simp only [Act.put, List.setIfInBounds_toArray, List.set_cons_succ]
    refine wpAnyH_take (i := 26) (oi := { dst := some 31, op := Op.load 2 (Operand.tmp 30), type := 2, pos := "l8_types.go:418", after := #[{ on := 25, ground := Ground.data }, { on := 21, ground := Ground.guard }], guard := some (21, false) }) (v := undef) rfl (by kernel_rfl) (by kernel_rfl) (by kernel_rfl) (fun _ _ _ h => h) (Or.inr ⟨by kernel_rfl, rfl⟩) (by assumption) ?rest26
    try simp only [Act.put, List.setIfInBounds_toArray, List.set_cons_succ]
    refine wpAnyH_ready (rs := [24]) (by kernel_rfl) (by simp) ?_
    refine AllReadyH.cons (o := { dst := some 29, op := Op.call { callee := Callee.value (Operand.func 73), args := #[Operand.tmp 28], argTypes := #[29] }, type := 2, pos := "l8_types.go:418", after := #[{ on := 23, ground := Ground.data }, { on := 21, ground := Ground.chain }, { on := 21, ground := Ground.guard }], guard := some (21, false) }) rfl (fun K hK => ?_) AllReadyH.nil
    go_simp
    refine hK.out _ _ S5 (fun hHeld => ?_)
    clear hK K
    try simp only [Act.put, List.setIfInBounds_toArray, List.set_cons_succ]
    refine wpAnyH_take (i := 27) (oi := { dst := some 32, op := Op.binOp BinOp.geq 2 (Operand.tmp 29) (Operand.tmp 31) 2, type := 4, pos := "l8_types.go:418", after := #[{ on := 24, ground := Ground.data }, { on := 26, ground := Ground.data }, { on := 21, ground := Ground.guard }], guard := some (21, false) }) (v := undef) rfl (by kernel_rfl) (by kernel_rfl) (by kernel_rfl) (fun _ _ _ h => h) (Or.inr ⟨by kernel_rfl, rfl⟩) (by assumption) ?rest27
    try simp only [Act.put, List.setIfInBounds_toArray, List.set_cons_succ]
    refine' wpAnyH_take (i := 28) (oi := { dst := some 33, op := Op.pick (Operand.tmp 26) (Operand.const (Value.bool true)) (Operand.tmp 32), type := 4, pos := "l8_types.go:418", after := #[{ on := 21, ground := Ground.data }, { on := 27, ground := Ground.data }], guard := none }) (v := .bool true) rfl (by kernel_rfl) (by kernel_rfl) (by kernel_rfl) (fun _ _ _ h => h) (Or.inl ⟨by kernel_rfl, ?hy28⟩) (by assumption) ?rest28
    case hy28 => (intro w hSw; (try dsimp only at hSw); go_simp; (try with_reducible rfl))
    try simp only [Act.put, List.setIfInBounds_toArray, List.set_cons_succ]
    refine wpAnyH_done (by kernel_rfl) ?_ _
    go_wp2_with fail
    go_meet
    case rel => exact ⟨rfl, HK5.out⟩
  case rest =>
    obtain ⟨rfl, kx⟩ := hcut
    rename World => wx
    have q1 := HQ1.out.kept kx trivial
    have q4 := HQ4.out.kept kx trivial
    have zx := kx.size
    have hz := HZ2.out
    have Bx : Below w.heap.size w wx := HB2.out.trans ((kx.below (fun _ _ => trivial) (Nat.le_refl _)).mono (by omega))
    have HBX := hide Bx
    have HQ := hide q4
    have HZX := hide (And.intro zx hz)
    obtain ⟨-, y0, yi, y1, y2, u0, ui, u1, u2⟩ := id q4
    clear Bx q4 kx zx hz xu xp x0 xi x1 x2 q1
    go_wp2_with fail
    obtain ⟨zx, hz⟩ := HZX.out
    refine bodyPost_ret (v := .agg #[.int .i64 0, .int .i64 0, .string ⟨#[]⟩, .slice none 0 0]) (by simp [results, Try.results40, go_sem, y0, yi, y1, y2]) rfl ⟨zeroN, rfl, ⟨rfl, rfl, rfl, trivial, trivial⟩, zeroN_ok _ _, ?_⟩
    refine (((HBX.out.setCell ?_ _).setCell ?_ _).setCell ?_ _).setCell ?_ _ <;> simp <;> omega

set_option maxRecDepth 100000 in
set_option maxHeartbeats 4000000 in
/-- .. where a number is out of its bounds. -/
theorem sopen_c1 (c : Int) (pa : Option Addr) (pn pc : Nat) (k ix : Int) (nm : ByteArray) (a : Option Addr) (cap : Nat) (ks : Fo) (f : Int) (w : World)
    (hs : ks.Sl w (fun b => b < w.heap.size) a cap) (hflt : fltB k ix nm ks = false) (h1 : ¬ f < 0) (h2 : ¬ 1099511627776 < f) (h3 : ¬ c < 0) (h4 : 1099511627776 < c) :
    Calls Try.prog 40 #[schV c pa pn pc k ix nm a ks.len cap, .int .i64 f] w fun e W' => ∃ d : Nd, e = .returned d.v ∧ d.fo.sim zeroT ∧ d.Ok W' (fun c => w.heap.size ≤ c ∧ c < W'.heap.size) ∧ Below w.heap.size w W' := by
  unfold schV
  obtain ⟨W2, hW2⟩ : ∃ W2, (w.alloc (.cells #[.int .i64 c, .slice pa pn pc, .int .i64 k, .int .i64 ix, .string nm, .slice a ks.len cap] 51)).alloc (.cells #[.int .i64 0, .int .i64 0, .string ⟨#[]⟩, .slice none 0 0] 29) = W2 := ⟨_, rfl⟩
  have b2 : Below w.heap.size w W2 := by rw [← hW2]; exact below_alloc2 _ _ _
  have z2 : W2.heap.size = w.heap.size + 1 + 1 := by rw [← hW2]; simp
  have q1 : Box6 W2 w.heap.size (.int .i64 c) (.slice pa pn pc) (.int .i64 k) (.int .i64 ix) (.string nm) (.slice a ks.len cap) := by
    rw [← hW2]
    exact (Box6.new _ _ _ _ _ _ _ _).kept (Kept.alloc (fun _ => True) _ _) trivial
  have q4 : Box4 W2 (w.heap.size + 1) (.int .i64 0) (.int .i64 0) (.string ⟨#[]⟩) (.slice none 0 0) := by
    rw [← hW2]
    have := Box4.new (w.alloc (.cells #[.int .i64 c, .slice pa pn pc, .int .i64 k, .int .i64 ix, .string nm, .slice a ks.len cap] 51)) (.int .i64 0) (.int .i64 0) (.string ⟨#[]⟩) (.slice none 0 0) 29
    rwa [World.size_alloc] at this
  have HCF : Hid (∀ V, Kept (fun _ => True) W2 V → Calls Try.prog 10 #[.agg #[.int .i64 k, .int .i64 ix, .string nm, .slice a ks.len cap]] V fun e w' => ∃ v, e = .returned v ∧ (v = .bool false ∧ Below V.heap.size V w')) := fun V kV => by
    have h := sfault k ix nm a cap ks V (((hs.below b2 (fun _ x => x)).kept kV (fun b x => ⟨trivial, by omega⟩)).mono (fun b x => by have := kV.size; omega))
    unfold nodeV at h
    rw [hflt] at h
    exact h.mono (fun e w' h => ⟨_, h.1, rfl, h.2⟩)
  have HB2 := hide b2
  have HZ2 := hide z2
  have HQ1 := hide q1
  have HQ4 := hide q4
  have d1 : decide (f < 0) = false := decide_eq_false h1
  have d2 : decide (1099511627776 < f) = false := decide_eq_false h2
  have d3 : decide (c < 0) = false := decide_eq_false h3
  have d4 : decide (1099511627776 < c) = true := decide_eq_true h4
  obtain ⟨-, xu, xp, x0, xi, x1, x2, -, -, -, -, -, -⟩ := id q1
  clear b2 z2 q1 q4 hs hflt
  go_enter Try.func40, Try.ntmps40
  go_upto_region 1 with fail
  clear hW2
  go_cut [33] (fun s33 wx => s33 = .bool true ∧ Kept (fun _ => True) W2 wx)
  case first =>
    have k0 := HQ1.out
    have S0 : W2.drew.cell? ⟨w.heap.size, 0, none⟩ = some (.int .i64 c) ∧ W2.drew.cell? ⟨w.heap.size, 2, none⟩ = some (.int .i64 k) ∧ W2.drew.cell? ⟨w.heap.size, 3, none⟩ = some (.int .i64 ix) ∧ W2.drew.cell? ⟨w.heap.size, 4, none⟩ = some (.string nm) ∧ W2.drew.cell? ⟨w.heap.size, 5, none⟩ = some (.slice a ks.len cap) := ⟨xu, x0, xi, x1, x2⟩
    have HCF2 : Hid (Calls Try.prog 10 #[.agg #[.int .i64 k, .int .i64 ix, .string nm, .slice a ks.len cap]] W2.drew fun e w' => e = .returned (.bool false) ∧ Below W2.heap.size W2.drew w') := (HCF.out W2.drew (Kept.drew _ _)).mono (fun e w' ⟨v, h1, h2, h3⟩ => ⟨by rw [h1, h2], h3⟩)
    have HSQ : Hid (∀ V, Kept (fun _ => True) W2 V → V.cell? ⟨w.heap.size, 0, none⟩ = some (.int .i64 c) ∧ V.cell? ⟨w.heap.size, 2, none⟩ = some (.int .i64 k) ∧ V.cell? ⟨w.heap.size, 3, none⟩ = some (.int .i64 ix) ∧ V.cell? ⟨w.heap.size, 4, none⟩ = some (.string nm) ∧ V.cell? ⟨w.heap.size, 5, none⟩ = some (.slice a ks.len cap)) := fun V kV => by
      have q := HQ1.out.kept kV trivial
      exact ⟨q.cu, q.c0, q.ci, q.c1, q.c2⟩
    clear k0 HCF
    refine wp_region_held_drew (S := (fun V => V.cell? ⟨w.heap.size, 0, none⟩ = some (.int .i64 c) ∧ V.cell? ⟨w.heap.size, 2, none⟩ = some (.int .i64 k) ∧ V.cell? ⟨w.heap.size, 3, none⟩ = some (.int .i64 ix) ∧ V.cell? ⟨w.heap.size, 4, none⟩ = some (.string nm) ∧ V.cell? ⟨w.heap.size, 5, none⟩ = some (.slice a ks.len cap))) (by kernel_rfl) S0 (fun hHeld => ?_)
    refine' wpAnyH_take (i := 0) (oi := { dst := some 5, op := Op.fieldAddr 51 (Operand.tmp 2) 2, type := 0, pos := "l8_types.go:418", after := #[], guard := none }) (v := _) rfl (by kernel_rfl) (by kernel_rfl) (by kernel_rfl) (fun _ _ _ h => h) (Or.inl ⟨by kernel_rfl, ?hy0⟩) (by assumption) ?rest0
    case hy0 => (intro w hSw; (try dsimp only at hSw); go_simp; (try with_reducible rfl))
    try simp only [Act.put, List.setIfInBounds_toArray, List.set_cons_succ]
    refine' wpAnyH_take (i := 1) (oi := { dst := some 6, op := Op.load 29 (Operand.tmp 5), type := 29, pos := "l8_types.go:418", after := #[{ on := 0, ground := Ground.data }], guard := none }) (v := _) rfl (by kernel_rfl) (by kernel_rfl) (by kernel_rfl) (fun _ _ _ h => h) (Or.inl ⟨by kernel_rfl, ?hy1⟩) (by assumption) ?rest1
    case hy1 => (intro w hSw; (try dsimp only at hSw); go_simp; (try with_reducible rfl))
    try simp only [Act.put, List.setIfInBounds_toArray, List.set_cons_succ]
    refine wpAnyH_ready (rs := [2]) (by kernel_rfl) (by simp) ?_
    refine AllReadyH.cons (o := { dst := some 7, op := Op.call { callee := Callee.value (Operand.func 10), args := #[Operand.tmp 6], argTypes := #[29] }, type := 4, pos := "l8_types.go:418", after := #[{ on := 1, ground := Ground.data }], guard := none }) rfl (fun K hK => ?_) AllReadyH.nil
    go_simp
    refine HCF2.out.mono ?_
    rintro e w5 ⟨rfl, b5⟩
    have HK5 : Hid (Kept (fun _ => True) W2 w5) := (Kept.drew _ _).trans (Kept.of_below b5 (fun c hc _ => hc))
    have S5 := HSQ.out w5 HK5.out
    go_wp2_with fail
    refine hK.out _ _ S5 (fun hHeld => ?_)
    clear hK K b5
    try simp only [Act.put, List.setIfInBounds_toArray, List.set_cons_succ]
    refine' wpAnyH_take (i := 3) (oi := { dst := some 8, op := Op.move (Operand.tmp 7), type := 4, pos := "l8_types.go:418", after := #[{ on := 2, ground := Ground.data }, { on := 2, ground := Ground.chain }], guard := none }) (v := _) rfl (by kernel_rfl) (by kernel_rfl) (by kernel_rfl) (fun _ _ _ h => h) (Or.inl ⟨by kernel_rfl, ?hy3⟩) (by assumption) ?rest3
    case hy3 => (intro w hSw; (try dsimp only at hSw); go_simp; (try with_reducible rfl))
    try simp only [Act.put, List.setIfInBounds_toArray, List.set_cons_succ]
    refine' wpAnyH_take (i := 4) (oi := { dst := some 9, op := Op.move (Operand.tmp 1), type := 2, pos := "l8_types.go:418", after := #[{ on := 3, ground := Ground.guard }], guard := some (3, false) }) (v := _) rfl (by kernel_rfl) (by kernel_rfl) (by kernel_rfl) (fun _ _ _ h => h) (Or.inl ⟨by kernel_rfl, ?hy4⟩) (by assumption) ?rest4
    case hy4 => (intro w hSw; (try dsimp only at hSw); go_simp; (try with_reducible rfl))
    try simp only [Act.put, List.setIfInBounds_toArray, List.set_cons_succ]
    refine' wpAnyH_take (i := 5) (oi := { dst := some 10, op := Op.binOp BinOp.lss 2 (Operand.tmp 9) (Operand.const (Value.int IntKind.i64 0)) 2, type := 4, pos := "l8_types.go:418", after := #[{ on := 4, ground := Ground.data }, { on := 3, ground := Ground.guard }], guard := some (3, false) }) (v := .bool false) rfl (by kernel_rfl) (by kernel_rfl) (by kernel_rfl) (fun _ _ _ h => h) (Or.inl ⟨by kernel_rfl, ?hy5⟩) (by assumption) ?rest5
    case hy5 => (intro w hSw; (try dsimp only at hSw); go_simp; (try simp only [d1, d2, d3, d4]); (try with_reducible rfl))
    try simp only [Act.put, List.setIfInBounds_toArray, List.set_cons_succ]
    refine' wpAnyH_take (i := 6) (oi := { dst := some 11, op := Op.pick (Operand.tmp 8) (Operand.const (Value.bool true)) (Operand.tmp 10), type := 4, pos := "l8_types.go:418", after := #[{ on := 3, ground := Ground.data }, { on := 5, ground := Ground.data }], guard := none }) (v := .bool false) rfl (by kernel_rfl) (by kernel_rfl) (by kernel_rfl) (fun _ _ _ h => h) (Or.inl ⟨by kernel_rfl, ?hy6⟩) (by assumption) ?rest6
    case hy6 => (intro w hSw; (try dsimp only at hSw); go_simp; (try with_reducible rfl))
    try simp only [Act.put, List.setIfInBounds_toArray, List.set_cons_succ]
    refine' wpAnyH_take (i := 7) (oi := { dst := some 12, op := Op.move (Operand.tmp 11), type := 4, pos := "l8_types.go:418", after := #[{ on := 6, ground := Ground.data }, { on := 3, ground := Ground.chain }], guard := none }) (v := .bool false) rfl (by kernel_rfl) (by kernel_rfl) (by kernel_rfl) (fun _ _ _ h => h) (Or.inl ⟨by kernel_rfl, ?hy7⟩) (by assumption) ?rest7
    case hy7 => (intro w hSw; (try dsimp only at hSw); go_simp; (try with_reducible rfl))
    try simp only [Act.put, List.setIfInBounds_toArray, List.set_cons_succ]
    refine' wpAnyH_take (i := 8) (oi := { dst := some 13, op := Op.move (Operand.tmp 1), type := 2, pos := "l8_types.go:418", after := #[{ on := 7, ground := Ground.guard }], guard := some (7, false) }) (v := _) rfl (by kernel_rfl) (by kernel_rfl) (by kernel_rfl) (fun _ _ _ h => h) (Or.inl ⟨by kernel_rfl, ?hy8⟩) (by assumption) ?rest8
    case hy8 => (intro w hSw; (try dsimp only at hSw); go_simp; (try with_reducible rfl))
    try simp only [Act.put, List.setIfInBounds_toArray, List.set_cons_succ]
    refine' wpAnyH_take (i := 9) (oi := { dst := some 14, op := Op.binOp BinOp.gtr 2 (Operand.tmp 13) (Operand.const (Value.int IntKind.i64 1099511627776)) 2, type := 4, pos := "l8_types.go:418", after := #[{ on := 8, ground := Ground.data }, { on := 7, ground := Ground.guard }], guard := some (7, false) }) (v := .bool false) rfl (by kernel_rfl) (by kernel_rfl) (by kernel_rfl) (fun _ _ _ h => h) (Or.inl ⟨by kernel_rfl, ?hy9⟩) (by assumption) ?rest9
    case hy9 => (intro w hSw; (try dsimp only at hSw); go_simp; (try simp only [d1, d2, d3, d4]); (try with_reducible rfl))
    try simp only [Act.put, List.setIfInBounds_toArray, List.set_cons_succ]
    refine' wpAnyH_take (i := 10) (oi := { dst := some 15, op := Op.pick (Operand.tmp 12) (Operand.const (Value.bool true)) (Operand.tmp 14), type := 4, pos := "l8_types.go:418", after := #[{ on := 7, ground := Ground.data }, { on := 9, ground := Ground.data }], guard := none }) (v := .bool false) rfl (by kernel_rfl) (by kernel_rfl) (by kernel_rfl) (fun _ _ _ h => h) (Or.inl ⟨by kernel_rfl, ?hy10⟩) (by assumption) ?rest10
    case hy10 => (intro w hSw; (try dsimp only at hSw); go_simp; (try with_reducible rfl))
    try simp only [Act.put, List.setIfInBounds_toArray, List.set_cons_succ]
    refine' wpAnyH_take (i := 11) (oi := { dst := some 16, op := Op.move (Operand.tmp 15), type := 4, pos := "l8_types.go:418", after := #[{ on := 10, ground := Ground.data }, { on := 7, ground := Ground.chain }], guard := none }) (v := .bool false) rfl (by kernel_rfl) (by kernel_rfl) (by kernel_rfl) (fun _ _ _ h => h) (Or.inl ⟨by kernel_rfl, ?hy11⟩) (by assumption) ?rest11
    case hy11 => (intro w hSw; (try dsimp only at hSw); go_simp; (try with_reducible rfl))
    try simp only [Act.put, List.setIfInBounds_toArray, List.set_cons_succ]
    refine' wpAnyH_take (i := 12) (oi := { dst := some 17, op := Op.fieldAddr 51 (Operand.tmp 2) 0, type := 0, pos := "l8_types.go:418", after := #[{ on := 11, ground := Ground.guard }], guard := some (11, false) }) (v := _) rfl (by kernel_rfl) (by kernel_rfl) (by kernel_rfl) (fun _ _ _ h => h) (Or.inl ⟨by kernel_rfl, ?hy12⟩) (by assumption) ?rest12
    case hy12 => (intro w hSw; (try dsimp only at hSw); go_simp; (try with_reducible rfl))
    try simp only [Act.put, List.setIfInBounds_toArray, List.set_cons_succ]
    refine' wpAnyH_take (i := 13) (oi := { dst := some 18, op := Op.load 2 (Operand.tmp 17), type := 2, pos := "l8_types.go:418", after := #[{ on := 12, ground := Ground.data }, { on := 11, ground := Ground.guard }], guard := some (11, false) }) (v := _) rfl (by kernel_rfl) (by kernel_rfl) (by kernel_rfl) (fun _ _ _ h => h) (Or.inl ⟨by kernel_rfl, ?hy13⟩) (by assumption) ?rest13
    case hy13 => (intro w hSw; (try dsimp only at hSw); go_simp; (try with_reducible rfl))
    try simp only [Act.put, List.setIfInBounds_toArray, List.set_cons_succ]
    refine' wpAnyH_take (i := 14) (oi := { dst := some 19, op := Op.binOp BinOp.lss 2 (Operand.tmp 18) (Operand.const (Value.int IntKind.i64 0)) 2, type := 4, pos := "l8_types.go:418", after := #[{ on := 13, ground := Ground.data }, { on := 11, ground := Ground.guard }], guard := some (11, false) }) (v := .bool false) rfl (by kernel_rfl) (by kernel_rfl) (by kernel_rfl) (fun _ _ _ h => h) (Or.inl ⟨by kernel_rfl, ?hy14⟩) (by assumption) ?rest14
    case hy14 => (intro w hSw; (try dsimp only at hSw); go_simp; (try simp only [d1, d2, d3, d4]); (try with_reducible rfl))
    try simp only [Act.put, List.setIfInBounds_toArray, List.set_cons_succ]
    refine' wpAnyH_take (i := 15) (oi := { dst := some 20, op := Op.pick (Operand.tmp 16) (Operand.const (Value.bool true)) (Operand.tmp 19), type := 4, pos := "l8_types.go:418", after := #[{ on := 11, ground := Ground.data }, { on := 14, ground := Ground.data }], guard := none }) (v := .bool false) rfl (by kernel_rfl) (by kernel_rfl) (by kernel_rfl) (fun _ _ _ h => h) (Or.inl ⟨by kernel_rfl, ?hy15⟩) (by assumption) ?rest15
    case hy15 => (intro w hSw; (try dsimp only at hSw); go_simp; (try with_reducible rfl))
    try simp only [Act.put, List.setIfInBounds_toArray, List.set_cons_succ]
    refine' wpAnyH_take (i := 16) (oi := { dst := some 21, op := Op.move (Operand.tmp 20), type := 4, pos := "l8_types.go:418", after := #[{ on := 15, ground := Ground.data }, { on := 11, ground := Ground.chain }], guard := none }) (v := .bool false) rfl (by kernel_rfl) (by kernel_rfl) (by kernel_rfl) (fun _ _ _ h => h) (Or.inl ⟨by kernel_rfl, ?hy16⟩) (by assumption) ?rest16
    case hy16 => (intro w hSw; (try dsimp only at hSw); go_simp; (try with_reducible rfl))
    try simp only [Act.put, List.setIfInBounds_toArray, List.set_cons_succ]
    refine' wpAnyH_take (i := 17) (oi := { dst := some 22, op := Op.fieldAddr 51 (Operand.tmp 2) 0, type := 0, pos := "l8_types.go:418", after := #[{ on := 16, ground := Ground.guard }], guard := some (16, false) }) (v := _) rfl (by kernel_rfl) (by kernel_rfl) (by kernel_rfl) (fun _ _ _ h => h) (Or.inl ⟨by kernel_rfl, ?hy17⟩) (by assumption) ?rest17
    case hy17 => (intro w hSw; (try dsimp only at hSw); go_simp; (try with_reducible rfl))
    try simp only [Act.put, List.setIfInBounds_toArray, List.set_cons_succ]
    refine' wpAnyH_take (i := 18) (oi := { dst := some 23, op := Op.load 2 (Operand.tmp 22), type := 2, pos := "l8_types.go:418", after := #[{ on := 17, ground := Ground.data }, { on := 16, ground := Ground.guard }], guard := some (16, false) }) (v := _) rfl (by kernel_rfl) (by kernel_rfl) (by kernel_rfl) (fun _ _ _ h => h) (Or.inl ⟨by kernel_rfl, ?hy18⟩) (by assumption) ?rest18
    case hy18 => (intro w hSw; (try dsimp only at hSw); go_simp; (try with_reducible rfl))
    try simp only [Act.put, List.setIfInBounds_toArray, List.set_cons_succ]
    refine' wpAnyH_take (i := 19) (oi := { dst := some 24, op := Op.binOp BinOp.gtr 2 (Operand.tmp 23) (Operand.const (Value.int IntKind.i64 1099511627776)) 2, type := 4, pos := "l8_types.go:418", after := #[{ on := 18, ground := Ground.data }, { on := 16, ground := Ground.guard }], guard := some (16, false) }) (v := .bool true) rfl (by kernel_rfl) (by kernel_rfl) (by kernel_rfl) (fun _ _ _ h => h) (Or.inl ⟨by kernel_rfl, ?hy19⟩) (by assumption) ?rest19
    case hy19 => (intro w hSw; (try dsimp only at hSw); go_simp; (try simp only [d1, d2, d3, d4]); (try with_reducible rfl))
    try simp only [Act.put, List.setIfInBounds_toArray, List.set_cons_succ]
    refine' wpAnyH_take (i := 20) (oi := { dst := some 25, op := Op.pick (Operand.tmp 21) (Operand.const (Value.bool true)) (Operand.tmp 24), type := 4, pos := "l8_types.go:418", after := #[{ on := 16, ground := Ground.data }, { on := 19, ground := Ground.data }], guard := none }) (v := .bool true) rfl (by kernel_rfl) (by kernel_rfl) (by kernel_rfl) (fun _ _ _ h => h) (Or.inl ⟨by kernel_rfl, ?hy20⟩) (by assumption) ?rest20
    case hy20 => (intro w hSw; (try dsimp only at hSw); go_simp; (try with_reducible rfl))
    try simp only [Act.put, List.setIfInBounds_toArray, List.set_cons_succ]
    refine' wpAnyH_take (i := 21) (oi := { dst := some 26, op := Op.move (Operand.tmp 25), type := 4, pos := "l8_types.go:418", after := #[{ on := 20, ground := Ground.data }, { on := 16, ground := Ground.chain }], guard := none }) (v := .bool true) rfl (by kernel_rfl) (by kernel_rfl) (by kernel_rfl) (fun _ _ _ h => h) (Or.inl ⟨by kernel_rfl, ?hy21⟩) (by assumption) ?rest21
    case hy21 => (intro w hSw; (try dsimp only at hSw); go_simp; (try with_reducible rfl))
    try simp only [Act.put, List.setIfInBounds_toArray, List.set_cons_succ]
    refine wpAnyH_take (i := 22) (oi := { dst := some 27, op := Op.fieldAddr 51 (Operand.tmp 2) 2, type := 0, pos := "l8_types.go:418", after := #[{ on := 21, ground := Ground.guard }], guard := some (21, false) }) (v := undef) rfl (by kernel_rfl) (by kernel_rfl) (by kernel_rfl) (fun _ _ _ h => h) (Or.inr ⟨by kernel_rfl, rfl⟩) (by assumption) ?rest22
    try simp only [Act.put, List.setIfInBounds_toArray, List.set_cons_succ]
    refine wpAnyH_take (i := 23) (oi := { dst := some 28, op := Op.load 29 (Operand.tmp 27), type := 29, pos := "l8_types.go:418", after := #[{ on := 22, ground := Ground.data }, { on := 21, ground := Ground.guard }], guard := some (21, false) }) (v := undef) rfl (by kernel_rfl) (by kernel_rfl) (by kernel_rfl) (fun _ _ _ h => h) (Or.inr ⟨by kernel_rfl, rfl⟩) (by assumption) ?rest23
    try simp only [Act.put, List.setIfInBounds_toArray, List.set_cons_succ]
    refine wpAnyH_take (i := 25) (oi := { dst := some 30, op := Op.fieldAddr 51 (Operand.tmp 2) 0, type := 0, pos := "l8_types.go:418", after := #[{ on := 21, ground := Ground.guard }], guard := some (21, false) }) (v := undef) rfl (by kernel_rfl) (by kernel_rfl) (by kernel_rfl) (fun _ _ _ h => h) (Or.inr ⟨by kernel_rfl, rfl⟩) (by assumption) ?rest25
    try simp only [Act.put, List.setIfInBounds_toArray, List.set_cons_succ]
    refine wpAnyH_take (i := 26) (oi := { dst := some 31, op := Op.load 2 (Operand.tmp 30), type := 2, pos := "l8_types.go:418", after := #[{ on := 25, ground := Ground.data }, { on := 21, ground := Ground.guard }], guard := some (21, false) }) (v := undef) rfl (by kernel_rfl) (by kernel_rfl) (by kernel_rfl) (fun _ _ _ h => h) (Or.inr ⟨by kernel_rfl, rfl⟩) (by assumption) ?rest26
    try simp only [Act.put, List.setIfInBounds_toArray, List.set_cons_succ]
    refine wpAnyH_ready (rs := [24]) (by kernel_rfl) (by simp) ?_
    refine AllReadyH.cons (o := { dst := some 29, op := Op.call { callee := Callee.value (Operand.func 73), args := #[Operand.tmp 28], argTypes := #[29] }, type := 2, pos := "l8_types.go:418", after := #[{ on := 23, ground := Ground.data }, { on := 21, ground := Ground.chain }, { on := 21, ground := Ground.guard }], guard := some (21, false) }) rfl (fun K hK => ?_) AllReadyH.nil
    go_simp
    refine hK.out _ _ S5 (fun hHeld => ?_)
    clear hK K
    try simp only [Act.put, List.setIfInBounds_toArray, List.set_cons_succ]
    refine wpAnyH_take (i := 27) (oi := { dst := some 32, op := Op.binOp BinOp.geq 2 (Operand.tmp 29) (Operand.tmp 31) 2, type := 4, pos := "l8_types.go:418", after := #[{ on := 24, ground := Ground.data }, { on := 26, ground := Ground.data }, { on := 21, ground := Ground.guard }], guard := some (21, false) }) (v := undef) rfl (by kernel_rfl) (by kernel_rfl) (by kernel_rfl) (fun _ _ _ h => h) (Or.inr ⟨by kernel_rfl, rfl⟩) (by assumption) ?rest27
    try simp only [Act.put, List.setIfInBounds_toArray, List.set_cons_succ]
    refine' wpAnyH_take (i := 28) (oi := { dst := some 33, op := Op.pick (Operand.tmp 26) (Operand.const (Value.bool true)) (Operand.tmp 32), type := 4, pos := "l8_types.go:418", after := #[{ on := 21, ground := Ground.data }, { on := 27, ground := Ground.data }], guard := none }) (v := .bool true) rfl (by kernel_rfl) (by kernel_rfl) (by kernel_rfl) (fun _ _ _ h => h) (Or.inl ⟨by kernel_rfl, ?hy28⟩) (by assumption) ?rest28
    case hy28 => (intro w hSw; (try dsimp only at hSw); go_simp; (try with_reducible rfl))
    try simp only [Act.put, List.setIfInBounds_toArray, List.set_cons_succ]
    refine wpAnyH_done (by kernel_rfl) ?_ _
    go_wp2_with fail
    go_meet
    case rel => exact ⟨rfl, HK5.out⟩
  case rest =>
    obtain ⟨rfl, kx⟩ := hcut
    rename World => wx
    have q1 := HQ1.out.kept kx trivial
    have q4 := HQ4.out.kept kx trivial
    have zx := kx.size
    have hz := HZ2.out
    have Bx : Below w.heap.size w wx := HB2.out.trans ((kx.below (fun _ _ => trivial) (Nat.le_refl _)).mono (by omega))
    have HBX := hide Bx
    have HQ := hide q4
    have HZX := hide (And.intro zx hz)
    obtain ⟨-, y0, yi, y1, y2, u0, ui, u1, u2⟩ := id q4
    clear Bx q4 kx zx hz xu xp x0 xi x1 x2 q1
    go_wp2_with fail
    obtain ⟨zx, hz⟩ := HZX.out
    refine bodyPost_ret (v := .agg #[.int .i64 0, .int .i64 0, .string ⟨#[]⟩, .slice none 0 0]) (by simp [results, Try.results40, go_sem, y0, yi, y1, y2]) rfl ⟨zeroN, rfl, ⟨rfl, rfl, rfl, trivial, trivial⟩, zeroN_ok _ _, ?_⟩
    refine (((HBX.out.setCell ?_ _).setCell ?_ _).setCell ?_ _).setCell ?_ _ <;> simp <;> omega

/-- The model's Open. -/
theorem sopen (c : Int) (pa : Option Addr) (pn pc : Nat) (k ix : Int) (nm : ByteArray) (a : Option Addr) (cap : Nat) (ks : Fo) (f : Int) (w : World)
    (hk : (Lit.int .i64 k).wf = true) (hix : (Lit.int .i64 ix).wf = true) (hnm : nm.size ≤ maxLen) (hs : ks.Sl w (fun b => b < w.heap.size) a cap) (hsz : nm.size + ks.tot ≤ 1048576) :
    Calls Try.prog 40 #[schV c pa pn pc k ix nm a ks.len cap, .int .i64 f] w fun e W' => ∃ d : Nd, e = .returned d.v ∧ d.fo.sim (oT c f k ix nm ks) ∧ d.Ok W' (fun c => w.heap.size ≤ c ∧ c < W'.heap.size) ∧ Below w.heap.size w W' := by
  have hst := ks.size_le
  have hzero : ¬ okO c f k ix nm ks → oT c f k ix nm ks = zeroT := fun h => by unfold oT; rw [if_neg h]
  by_cases hT : TG k ix nm ks
  · have hflt : fltB k ix nm ks = false := by simp [fltB, hT]
    by_cases h1 : f < 0
    · rw [hzero (fun o => by have := o.2.1; omega)]
      exact sopen_f0 c pa pn pc k ix nm a cap ks f w hs hflt h1
    by_cases h2 : 1099511627776 < f
    · rw [hzero (fun o => by have := o.2.2.1; omega)]
      exact sopen_f1 c pa pn pc k ix nm a cap ks f w hs hflt h1 h2
    by_cases h3 : c < 0
    · rw [hzero (fun o => by have := o.2.2.2.1; omega)]
      exact sopen_c0 c pa pn pc k ix nm a cap ks f w hs hflt h1 h2 h3
    by_cases h4 : 1099511627776 < c
    · rw [hzero (fun o => by have := o.2.2.2.2.1; omega)]
      exact sopen_c1 c pa pn pc k ix nm a cap ks f w hs hflt h1 h2 h3 h4
    by_cases hpls : (Fo.cons k ix nm a cap ks .nil).pls c
    · have ho : okO c f k ix nm ks := ⟨hT, by omega, by omega, by omega, by omega, hpls⟩
      have e : oT c f k ix nm ks = (Fo.cons k ix nm none 0 ks .nil).op f := by unfold oT; rw [if_pos ho]
      rw [e]
      refine (sopen_good c pa pn pc k ix nm a cap ks f w hk hix hnm hs (by omega) hT h1 h2 h3 h4 hpls).mono ?_
      rintro e W' ⟨d, r1, r2, r3, r4⟩
      exact ⟨d, r1, r2.trans (Fo.op_sim (F := .cons k ix nm a cap ks .nil) (G := .cons k ix nm none 0 ks .nil) ⟨rfl, rfl, rfl, Fo.sim.refl _, trivial⟩), r3, r4⟩
    · rw [hzero (fun o => hpls o.2.2.2.2.2)]
      exact sopen_most c pa pn pc k ix nm a cap ks f w hs hT h1 h2 h3 h4 hpls
  · have hflt : fltB k ix nm ks = true := by simp [fltB, hT]
    rw [hzero (fun o => hT o.1)]
    exact sopen_fault c pa pn pc k ix nm a cap ks f w hs hflt

end Go.Proofs.Ytcnbnhoeobdbnaa
