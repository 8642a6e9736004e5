import Derived.Test.YteminjgoepmppaaWo
import Derived.Deep.RegionHeld3
import Derived.Deep.DeepCutAuto
namespace Go.Proofs.Yteminjgoepmppaa
open Go.RowKit Go.Joins

/-- A call that a guard lets through, as one step of a region that draws. -/
theorem step_callg {P : Program} {ops : Array Oper} {o : Oper} {a : Act} {w : World} {K : Act → World → Prop} {Q : Exit → Act → World → Prop} {E : Prop} (hw : Region.wanted o (yielded ops a.tmps) = true) (f : FuncId) (args : Array Value) (hrun : (execOp a.eval o).run P w = .ok (.enter f args) w) (post : Value → World → Prop)
    (hc : Calls P f args w fun e w'' => ∃ v, e = .returned v ∧ post v w'') (h : ∀ v w', post v w' → K (a.put o.dst v) w') :
    if Region.wanted o (yielded ops a.tmps) = true then Oper.wp P o a w K Q else E := by
  rw [if_pos hw]
  unfold Oper.wp
  rw [hrun, Oper.upon_enter]
  refine hc.mono fun e w'' hh => ?_
  obtain ⟨v, rfl, hp⟩ := hh
  exact h v w'' hp

open Classical in
noncomputable def sopT (c f : Int) (F : Fo) : Fo := if F.pls c then F.op f else zeroT

set_option maxRecDepth 100000 in
set_option maxHeartbeats 4000000 in
/-- The model's Open, where nothing is wrong with the type and the numbers. -/
theorem sopen_good (c : Int) (pa : Option Addr) (pn pc : Nat) (k ix : Int) (nm : ByteArray) (a : Option Addr) (cap : Nat) (ks : Fo) (f : Int) (w : World)
    (hk : (Lit.int .i64 k).wf = true) (hix : (Lit.int .i64 ix).wf = true) (hnm : nm.size ≤ maxLen) (hs : ks.Sl w (fun b => b < w.heap.size) a cap) (hsz : ks.size ≤ 1048576) (hT : TG k ix nm ks) (h1 : ¬ f < 0) (h2 : ¬ 1099511627776 < f) (h3 : ¬ c < 0) (h4 : ¬ 1099511627776 < c) (hpls : (Fo.cons k ix nm a cap ks .nil).pls c) :
    Calls Try.prog 40 #[schV c pa pn pc k ix nm a ks.len cap, .int .i64 f] w fun e W' => ∃ d : Nd, e = .returned d.v ∧ d.fo.sim ((Fo.cons k ix nm a cap ks .nil).op f) ∧ d.Ok W' (fun c => w.heap.size ≤ c ∧ c < W'.heap.size) ∧ Below w.heap.size w W' := by
  unfold schV
  have hflt : fltB k ix nm ks = false := by simp [fltB, hT]
  obtain ⟨W2, hW2⟩ : ∃ W2, (w.alloc (.cells #[.int .i64 c, .slice pa pn pc, .int .i64 k, .int .i64 ix, .string nm, .slice a ks.len cap] 51)).alloc (.cells #[.int .i64 0, .int .i64 0, .string ⟨#[]⟩, .slice none 0 0] 29) = W2 := ⟨_, rfl⟩
  have b2 : Below w.heap.size w W2 := by rw [← hW2]; exact below_alloc2 _ _ _
  have z2 : W2.heap.size = w.heap.size + 1 + 1 := by rw [← hW2]; simp
  have q1 : Box6 W2 w.heap.size (.int .i64 c) (.slice pa pn pc) (.int .i64 k) (.int .i64 ix) (.string nm) (.slice a ks.len cap) := by
    rw [← hW2]
    exact (Box6.new _ _ _ _ _ _ _ _).kept (Kept.alloc (fun _ => True) _ _) trivial
  have q4 : Box4 W2 (w.heap.size + 1) (.int .i64 0) (.int .i64 0) (.string ⟨#[]⟩) (.slice none 0 0) := by
    rw [← hW2]
    have := Box4.new (w.alloc (.cells #[.int .i64 c, .slice pa pn pc, .int .i64 k, .int .i64 ix, .string nm, .slice a ks.len cap] 51)) (.int .i64 0) (.int .i64 0) (.string ⟨#[]⟩) (.slice none 0 0) 29
    rwa [World.size_alloc] at this
  obtain ⟨M, hM⟩ : ∃ M, ks.mst (if k = 2 then ix else -1) = M := ⟨_, rfl⟩
  have hMc : M < c := by
    rw [← hM, Fo.mst_lt (by omega)]
    refine ⟨?_, hpls.2.1⟩
    split
    · next h => exact hpls.1 h
    · omega
  have HCF : Hid (∀ V, Kept (fun _ => True) W2 V → Calls Try.prog 10 #[.agg #[.int .i64 k, .int .i64 ix, .string nm, .slice a ks.len cap]] V fun e w' => ∃ v, e = .returned v ∧ (v = .bool false ∧ Below V.heap.size V w')) := fun V kV => by
    have h := sfault k ix nm a cap ks V (((hs.below b2 (fun _ x => x)).kept kV (fun b x => ⟨trivial, by omega⟩)).mono (fun b x => by have := kV.size; omega))
    unfold nodeV at h
    rw [hflt] at h
    exact h.mono (fun e w' h => ⟨_, h.1, rfl, h.2⟩)
  have HCM : Hid (∀ V, Kept (fun _ => True) W2 V → Calls Try.prog 73 #[.agg #[.int .i64 k, .int .i64 ix, .string nm, .slice a ks.len cap]] V fun e w' => ∃ v, e = .returned v ∧ (v = .int .i64 M ∧ Below V.heap.size V w')) := fun V kV => by
    have h := most_node _ ks (Nat.lt_succ_self _) k ix nm w.heap.size V a cap (by have := kV.size; omega) ((hs.below b2 (fun _ x => x)).kept kV (fun b x => ⟨trivial, by omega⟩))
    unfold nodeV at h
    rw [hM] at h
    exact h.mono (fun e w' h => ⟨_, h.1, rfl, h.2⟩)
  have HB2 := hide b2
  have HZ2 := hide z2
  have HQ1 := hide q1
  have HQ4 := hide q4
  have HS := hide hs
  have d1 : decide (f < 0) = false := decide_eq_false h1
  have d2 : decide (1099511627776 < f) = false := decide_eq_false h2
  have d3 : decide (c < 0) = false := decide_eq_false h3
  have d4 : decide (1099511627776 < c) = false := decide_eq_false h4
  have d5 : decide (c ≤ M) = false := decide_eq_false (by omega)
  obtain ⟨-, xu, xp, x0, xi, x1, x2, -, -, -, -, -, -⟩ := id q1
  have HPL := hide hpls
  clear b2 z2 q1 q4 hs hM hflt hpls
  go_enter Try.func40, Try.ntmps40
  go_upto_region 1 with fail
  clear hW2
  go_cut [33] (fun s33 wx => s33 = .bool false ∧ Kept (fun _ => True) W2 wx)
  case first =>
    have k0 := HQ1.out
    have S0 : W2.drew.cell? ⟨w.heap.size, 0, none⟩ = some (.int .i64 c) ∧ W2.drew.cell? ⟨w.heap.size, 2, none⟩ = some (.int .i64 k) ∧ W2.drew.cell? ⟨w.heap.size, 3, none⟩ = some (.int .i64 ix) ∧ W2.drew.cell? ⟨w.heap.size, 4, none⟩ = some (.string nm) ∧ W2.drew.cell? ⟨w.heap.size, 5, none⟩ = some (.slice a ks.len cap) := ⟨xu, x0, xi, x1, x2⟩
    have HCF2 : Hid (Calls Try.prog 10 #[.agg #[.int .i64 k, .int .i64 ix, .string nm, .slice a ks.len cap]] W2.drew fun e w' => e = .returned (.bool false) ∧ Below W2.heap.size W2.drew w') := (HCF.out W2.drew (Kept.drew _ _)).mono (fun e w' ⟨v, h1, h2, h3⟩ => ⟨by rw [h1, h2], h3⟩)
    have HCM2 : Hid (∀ V, Kept (fun _ => True) W2 V → Calls Try.prog 73 #[.agg #[.int .i64 k, .int .i64 ix, .string nm, .slice a ks.len cap]] V fun e w' => e = .returned (.int .i64 M) ∧ Below V.heap.size V w') := fun V kV => (HCM.out V kV).mono (fun e w' ⟨v, h1, h2, h3⟩ => ⟨by rw [h1, h2], h3⟩)
    have HSQ : Hid (∀ V, Kept (fun _ => True) W2 V → V.cell? ⟨w.heap.size, 0, none⟩ = some (.int .i64 c) ∧ V.cell? ⟨w.heap.size, 2, none⟩ = some (.int .i64 k) ∧ V.cell? ⟨w.heap.size, 3, none⟩ = some (.int .i64 ix) ∧ V.cell? ⟨w.heap.size, 4, none⟩ = some (.string nm) ∧ V.cell? ⟨w.heap.size, 5, none⟩ = some (.slice a ks.len cap)) := fun V kV => by
      have q := HQ1.out.kept kV trivial
      exact ⟨q.cu, q.c0, q.ci, q.c1, q.c2⟩
    clear k0 HCF HCM
    go_region_held3 (fun V => V.cell? ⟨w.heap.size, 0, none⟩ = some (.int .i64 c) ∧ V.cell? ⟨w.heap.size, 2, none⟩ = some (.int .i64 k) ∧ V.cell? ⟨w.heap.size, 3, none⟩ = some (.int .i64 ix) ∧ V.cell? ⟨w.heap.size, 4, none⟩ = some (.string nm) ∧ V.cell? ⟨w.heap.size, 5, none⟩ = some (.slice a ks.len cap))
      (first | with_reducible exact S6 | with_reducible exact S5 | with_reducible exact S0)
      (first
        | (go_at_call 10; refine HCF2.out.mono ?_; rintro e w5 ⟨rfl, b5⟩; have HK5 : Hid (Kept (fun _ => True) W2 w5) := (Kept.drew _ _).trans (Kept.of_below b5 (fun c hc _ => hc)); have S5 := HSQ.out w5 HK5.out; clear b5)
        | (go_at_call 73; refine (HCM2.out w5 HK5.out).mono ?_; rintro e w6 ⟨rfl, b6⟩; have HK6 : Hid (Kept (fun _ => True) W2 w6) := HK5.out.trans (kt b6); have S6 := HSQ.out w6 HK6.out; clear b6))
    all_goals
      go_wp2_with fail
      go_meet
      case rel => exact ⟨rfl, HK6.out⟩
  case rest =>
    obtain ⟨rfl, kx⟩ := hcut
    rename World => wx
    have q1 := HQ1.out.kept kx trivial
    have q4 := HQ4.out.kept kx trivial
    have zx := kx.size
    have hz := HZ2.out
    have Bx : Below w.heap.size w wx := HB2.out.trans ((kx.below (fun _ _ => trivial) (Nat.le_refl _)).mono (by omega))
    have hpl := Fo.pl_of (by omega : c ≤ 1099511627776) _ 1 (show (Fo.cons k ix nm a cap ks .nil).good 1 from hT.1) HPL.out
    have HO := open_any _ ks (Nat.lt_succ_self _) k ix nm f w.heap.size wx a cap (by omega) hsz (by omega) (by omega) hk hix hnm (HS.out.below Bx (fun _ x => x)) hpl
    unfold nodeV at HO
    have HO' := hide HO
    have HBX := hide Bx
    have HQ := hide q4
    have HZX := hide (And.intro zx hz)
    clear HO Bx q4 hpl kx zx hz xu xp x0 xi x1 x2
    obtain ⟨-, xu, xp, x0, xi, x1, x2, -, -, -, -, -, -⟩ := q1
    go_wp2_with fail
    refine HO'.out.mono ?_
    rintro e w6 ⟨v6, rfl, d, rfl, sd, okd, b6⟩
    have q6 := HQ.out.below b6 (by have := HQ.out.lt; omega)
    have HX := hide (And.intro sd (And.intro okd b6))
    obtain ⟨-, y0, yi, y1, y2, u0, ui, u1, u2⟩ := q6
    clear sd okd b6 xu xp x0 xi x1 x2
    unfold Nd.v nodeV
    go_wp2_with fail
    obtain ⟨sd, okd, b6⟩ := HX.out
    obtain ⟨zx, hz⟩ := HZX.out
    have z6 := b6.size
    obtain ⟨V, hV⟩ : ∃ V, (((w6.setCell ⟨w.heap.size + 1, 0, none⟩ (.int .i64 d.k)).setCell ⟨w.heap.size + 1, 1, none⟩ (.int .i64 d.ix)).setCell ⟨w.heap.size + 1, 2, none⟩ (.string d.nm)).setCell ⟨w.heap.size + 1, 3, none⟩ (.slice d.a d.ks.len d.cap) = V := ⟨_, rfl⟩
    have kV : Kept (fun c => c ≠ w.heap.size + 1) w6 V := by
      rw [← hV]
      exact (((Kept.setCell _ _ _ _ (by simp)).trans (Kept.setCell _ _ _ _ (by simp))).trans (Kept.setCell _ _ _ _ (by simp))).trans (Kept.setCell _ _ _ _ (by simp))
    refine bodyPost_ret (v := .agg #[.int .i64 d.k, .int .i64 d.ix, .string d.nm, .slice d.a d.ks.len d.cap]) (by simp [results, Try.results40, go_sem, y0, yi, y1, y2]) rfl ⟨d, rfl, sd, ?_, ?_⟩
    · rw [hV]
      exact okd.keep (fun c h => ⟨by have := h.1; omega, Nat.lt_of_lt_of_le h.2 kV.size⟩) (fun p hp v hv => (kV.cell (p := p) hp.2 (by have := hp.1; show p.block ≠ _; omega)).trans hv)
    · rw [hV]
      exact Below.kept (HBX.out.trans (b6.mono (by omega))) kV (fun c hc => by omega) (Nat.le_refl _)

set_option maxRecDepth 100000 in
set_option maxHeartbeats 4000000 in
/-- .. where a place is too great. -/
theorem sopen_most (c : Int) (pa : Option Addr) (pn pc : Nat) (k ix : Int) (nm : ByteArray) (a : Option Addr) (cap : Nat) (ks : Fo) (f : Int) (w : World)
    (hs : ks.Sl w (fun b => b < w.heap.size) a cap) (hT : TG k ix nm ks) (h1 : ¬ f < 0) (h2 : ¬ 1099511627776 < f) (h3 : ¬ c < 0) (h4 : ¬ 1099511627776 < c) (hpls : ¬ (Fo.cons k ix nm a cap ks .nil).pls c) :
    Calls Try.prog 40 #[schV c pa pn pc k ix nm a ks.len cap, .int .i64 f] w fun e W' => ∃ d : Nd, e = .returned d.v ∧ d.fo.sim zeroT ∧ d.Ok W' (fun c => w.heap.size ≤ c ∧ c < W'.heap.size) ∧ Below w.heap.size w W' := by
  unfold schV
  have hflt : fltB k ix nm ks = false := by simp [fltB, hT]
  obtain ⟨W2, hW2⟩ : ∃ W2, (w.alloc (.cells #[.int .i64 c, .slice pa pn pc, .int .i64 k, .int .i64 ix, .string nm, .slice a ks.len cap] 51)).alloc (.cells #[.int .i64 0, .int .i64 0, .string ⟨#[]⟩, .slice none 0 0] 29) = W2 := ⟨_, rfl⟩
  have b2 : Below w.heap.size w W2 := by rw [← hW2]; exact below_alloc2 _ _ _
  have z2 : W2.heap.size = w.heap.size + 1 + 1 := by rw [← hW2]; simp
  have q1 : Box6 W2 w.heap.size (.int .i64 c) (.slice pa pn pc) (.int .i64 k) (.int .i64 ix) (.string nm) (.slice a ks.len cap) := by
    rw [← hW2]
    exact (Box6.new _ _ _ _ _ _ _ _).kept (Kept.alloc (fun _ => True) _ _) trivial
  have q4 : Box4 W2 (w.heap.size + 1) (.int .i64 0) (.int .i64 0) (.string ⟨#[]⟩) (.slice none 0 0) := by
    rw [← hW2]
    have := Box4.new (w.alloc (.cells #[.int .i64 c, .slice pa pn pc, .int .i64 k, .int .i64 ix, .string nm, .slice a ks.len cap] 51)) (.int .i64 0) (.int .i64 0) (.string ⟨#[]⟩) (.slice none 0 0) 29
    rwa [World.size_alloc] at this
  obtain ⟨M, hM⟩ : ∃ M, ks.mst (if k = 2 then ix else -1) = M := ⟨_, rfl⟩
  have hMc : ¬ M < c := by
    rw [← hM, Fo.mst_lt (by omega)]
    rintro ⟨g1, g2⟩
    refine hpls ⟨fun h => ?_, g2, trivial⟩
    rw [if_pos h] at g1
    exact g1
  have HCF : Hid (∀ V, Kept (fun _ => True) W2 V → Calls Try.prog 10 #[.agg #[.int .i64 k, .int .i64 ix, .string nm, .slice a ks.len cap]] V fun e w' => ∃ v, e = .returned v ∧ (v = .bool false ∧ Below V.heap.size V w')) := fun V kV => by
    have h := sfault k ix nm a cap ks V (((hs.below b2 (fun _ x => x)).kept kV (fun b x => ⟨trivial, by omega⟩)).mono (fun b x => by have := kV.size; omega))
    unfold nodeV at h
    rw [hflt] at h
    exact h.mono (fun e w' h => ⟨_, h.1, rfl, h.2⟩)
  have HCM : Hid (∀ V, Kept (fun _ => True) W2 V → Calls Try.prog 73 #[.agg #[.int .i64 k, .int .i64 ix, .string nm, .slice a ks.len cap]] V fun e w' => ∃ v, e = .returned v ∧ (v = .int .i64 M ∧ Below V.heap.size V w')) := fun V kV => by
    have h := most_node _ ks (Nat.lt_succ_self _) k ix nm w.heap.size V a cap (by have := kV.size; omega) ((hs.below b2 (fun _ x => x)).kept kV (fun b x => ⟨trivial, by omega⟩))
    unfold nodeV at h
    rw [hM] at h
    exact h.mono (fun e w' h => ⟨_, h.1, rfl, h.2⟩)
  have HB2 := hide b2
  have HZ2 := hide z2
  have HQ1 := hide q1
  have HQ4 := hide q4
  have HS := hide hs
  have d1 : decide (f < 0) = false := decide_eq_false h1
  have d2 : decide (1099511627776 < f) = false := decide_eq_false h2
  have d3 : decide (c < 0) = false := decide_eq_false h3
  have d4 : decide (1099511627776 < c) = false := decide_eq_false h4
  have d5 : decide (c ≤ M) = true := decide_eq_true (by omega)
  obtain ⟨-, xu, xp, x0, xi, x1, x2, -, -, -, -, -, -⟩ := id q1
  clear b2 z2 q1 q4 hs hM hflt hpls
  go_enter Try.func40, Try.ntmps40
  go_upto_region 1 with fail
  clear hW2
  go_cut [33] (fun s33 wx => s33 = .bool true ∧ Kept (fun _ => True) W2 wx)
  case first =>
    have k0 := HQ1.out
    have S0 : W2.drew.cell? ⟨w.heap.size, 0, none⟩ = some (.int .i64 c) ∧ W2.drew.cell? ⟨w.heap.size, 2, none⟩ = some (.int .i64 k) ∧ W2.drew.cell? ⟨w.heap.size, 3, none⟩ = some (.int .i64 ix) ∧ W2.drew.cell? ⟨w.heap.size, 4, none⟩ = some (.string nm) ∧ W2.drew.cell? ⟨w.heap.size, 5, none⟩ = some (.slice a ks.len cap) := ⟨xu, x0, xi, x1, x2⟩
    have HCF2 : Hid (Calls Try.prog 10 #[.agg #[.int .i64 k, .int .i64 ix, .string nm, .slice a ks.len cap]] W2.drew fun e w' => e = .returned (.bool false) ∧ Below W2.heap.size W2.drew w') := (HCF.out W2.drew (Kept.drew _ _)).mono (fun e w' ⟨v, h1, h2, h3⟩ => ⟨by rw [h1, h2], h3⟩)
    have HCM2 : Hid (∀ V, Kept (fun _ => True) W2 V → Calls Try.prog 73 #[.agg #[.int .i64 k, .int .i64 ix, .string nm, .slice a ks.len cap]] V fun e w' => e = .returned (.int .i64 M) ∧ Below V.heap.size V w') := fun V kV => (HCM.out V kV).mono (fun e w' ⟨v, h1, h2, h3⟩ => ⟨by rw [h1, h2], h3⟩)
    have HSQ : Hid (∀ V, Kept (fun _ => True) W2 V → V.cell? ⟨w.heap.size, 0, none⟩ = some (.int .i64 c) ∧ V.cell? ⟨w.heap.size, 2, none⟩ = some (.int .i64 k) ∧ V.cell? ⟨w.heap.size, 3, none⟩ = some (.int .i64 ix) ∧ V.cell? ⟨w.heap.size, 4, none⟩ = some (.string nm) ∧ V.cell? ⟨w.heap.size, 5, none⟩ = some (.slice a ks.len cap)) := fun V kV => by
      have q := HQ1.out.kept kV trivial
      exact ⟨q.cu, q.c0, q.ci, q.c1, q.c2⟩
    clear k0 HCF HCM
    go_region_held3 (fun V => V.cell? ⟨w.heap.size, 0, none⟩ = some (.int .i64 c) ∧ V.cell? ⟨w.heap.size, 2, none⟩ = some (.int .i64 k) ∧ V.cell? ⟨w.heap.size, 3, none⟩ = some (.int .i64 ix) ∧ V.cell? ⟨w.heap.size, 4, none⟩ = some (.string nm) ∧ V.cell? ⟨w.heap.size, 5, none⟩ = some (.slice a ks.len cap))
      (first | with_reducible exact S6 | with_reducible exact S5 | with_reducible exact S0)
      (first
        | (go_at_call 10; refine HCF2.out.mono ?_; rintro e w5 ⟨rfl, b5⟩; have HK5 : Hid (Kept (fun _ => True) W2 w5) := (Kept.drew _ _).trans (Kept.of_below b5 (fun c hc _ => hc)); have S5 := HSQ.out w5 HK5.out; clear b5)
        | (go_at_call 73; refine (HCM2.out w5 HK5.out).mono ?_; rintro e w6 ⟨rfl, b6⟩; have HK6 : Hid (Kept (fun _ => True) W2 w6) := HK5.out.trans (kt b6); have S6 := HSQ.out w6 HK6.out; clear b6))
    all_goals
      go_wp2_with fail
      go_meet
      case rel => exact ⟨rfl, HK6.out⟩
  case rest =>
    obtain ⟨rfl, kx⟩ := hcut
    rename World => wx
    have q1 := HQ1.out.kept kx trivial
    have q4 := HQ4.out.kept kx trivial
    have zx := kx.size
    have hz := HZ2.out
    have Bx : Below w.heap.size w wx := HB2.out.trans ((kx.below (fun _ _ => trivial) (Nat.le_refl _)).mono (by omega))
    have HBX := hide Bx
    have HQ := hide q4
    have HZX := hide (And.intro zx hz)
    obtain ⟨-, y0, yi, y1, y2, u0, ui, u1, u2⟩ := id q4
    clear Bx q4 kx zx hz xu xp x0 xi x1 x2 q1
    go_wp2_with fail
    obtain ⟨zx, hz⟩ := HZX.out
    refine bodyPost_ret (v := .agg #[.int .i64 0, .int .i64 0, .string ⟨#[]⟩, .slice none 0 0]) (by simp [results, Try.results40, go_sem, y0, yi, y1, y2]) rfl ⟨zeroN, rfl, ⟨rfl, rfl, rfl, trivial, trivial⟩, zeroN_ok _ _, ?_⟩
    refine (((HBX.out.setCell ?_ _).setCell ?_ _).setCell ?_ _).setCell ?_ _ <;> simp <;> omega

end Go.Proofs.Yteminjgoepmppaa
