import Derived.Test.YtkjbkmhmghmodaaBg
import Derived.Deep.RegionHeld3
namespace Go.Proofs.Ytkjbkmhmghmodaa
open Go.RowKit Go.Joins

theorem con_a {P : Nat → Prop} {M : Nat} {Lr : List Value} {V0 V wc w5 : World} {nc nd : Nat} {nm x : ByteArray} {vars : Int} {k : Nat} {pc pd na fa : Option Addr} {qc qd ncap g cap fn fc : Nat} {C D N Fk : Fo} (bm : Bx V M (.slice pc nc qc :: .slice pd (nd + 1) qd :: Lr))
    (hp : Hp P [.row 43 5 (.slice pc nc qc) nc C, .row 124 3 (.slice pd (nd + 1) qd) (nd + 1) D, .row 9 1 (.slice na k ncap) k N, .fo (.s fa fn fc Fk .nil)] V) (pm : P M) (pl : ∀ c, P c → c < V.heap.size) (kp : Kept (fun c => P c ∧ c ≠ M) V0 V)
    (kw : Kept (fun _ => True) V wc) (hG : wc.grownBy w5 (Value.slice pc nc qc).ownBlock) (hO : w5.ownsRow 0 43 5 (.slice (some ⟨g, 0, none⟩) (nc + 1) cap) (nc + 1) (C.vals ++ [.string x, .string nm, .int .i64 k, .int .i64 vars, .slice fa fn fc])) (hat : (Value.slice pc nc qc).ownBlock = some g ∨ g = wc.heap.size) :
    (∀ W, W = w5.setCell ⟨M, 0, none⟩ (.slice (some ⟨g, 0, none⟩) (nc + 1) cap) → Bx W M (.slice (some ⟨g, 0, none⟩) (nc + 1) cap :: .slice pd (nd + 1) qd :: Lr) ∧ Hp P [.row 43 5 (.slice (some ⟨g, 0, none⟩) (nc + 1) cap) (nc + 1) (C.app (con5 x nm k vars fa fn fc Fk)), .row 124 3 (.slice pd (nd + 1) qd) (nd + 1) D, .row 9 1 (.slice na k ncap) k N] W ∧ Kept (fun c => P c ∧ c ≠ M) V0 W ∧ V.heap.size ≤ W.heap.size) ∧ Bx w5 M (.slice pc nc qc :: .slice pd (nd + 1) qd :: Lr) := by
  have hM := bm.lt
  have hPl : ∀ c, P c → c < wc.heap.size := fun c hc => by have := kw.size; have := pl c hc; omega
  have h0 := ((hp.keep kw).perm (rot4 _ _ _ _))
  have h1 := (Hp.v (.string x) (Hp.v (.string nm) (Hp.v (.int .i64 (k : Int)) (Hp.v (.int .i64 vars) h0)))).perm (perm_b _ _ _)
  obtain ⟨h3, k3⟩ := h1.grow hPl hG hO (by
    rcases hat with e | e
    · exact .inl e.symm
    · rw [e]; exact .inr rfl)
  have hob : ∀ c, P c → (Value.slice pc nc qc).ownBlock ≠ some c := fun c hc e => h1.fr c (by rw [bls_cons]; exact List.mem_append.2 (.inl (List.mem_append.2 (.inl (mem_ob.2 e))))) hc
  have kk : Kept (fun c => (Value.slice pc nc qc).ownBlock ≠ some c) V w5 := (kw.mono (fun _ _ _ => trivial)).trans k3
  have m5 := bm.kept kk (hob M pm)
  refine ⟨fun W hW => ?_, m5⟩
  subst hW
  have ks : Kept (fun c => c ≠ M) w5 (w5.setCell ⟨M, 0, none⟩ (.slice (some ⟨g, 0, none⟩) (nc + 1) cap)) := Kept.setCell _ _ _ _ (by simp)
  exact ⟨m5.put 0 _ (by simp), h3.put _ _ pm, (kp.trans (kk.mono (fun c _ hc => hob c hc.1))).trans (ks.mono (fun c _ hc => hc.2)), Nat.le_trans kk.size ks.size⟩

theorem con_b {P : Nat → Prop} {M : Nat} {Lr : List Value} {V0 V wc w5 : World} {nc nd : Nat} {Cx Dx : Fo} {nm x : ByteArray} {vars : Int} {k : Nat} {pc na : Option Addr} {qc qd ncap g gd cap : Nat} {C D N : Fo} (bm : Bx V M (.slice pc nc qc :: .slice (some ⟨gd, 0, none⟩) (nd + 1) qd :: Lr))
    (hp : Hp P [.row 43 5 (.slice pc nc qc) nc C, .row 124 3 (.slice (some ⟨gd, 0, none⟩) (nd + 1) qd) (nd + 1) (D.app (.v (.string nm) (.v (.int .i64 vars) (.v (.slice na k ncap) .nil)))), .row 9 1 (.slice na k ncap) k N] V) (pm : P M) (pl : ∀ c, P c → c < V.heap.size) (kp : Kept (fun c => P c ∧ c ≠ M) V0 V) (hsc : C.sim Cx) (hsd : D.sim Dx) (hdl : D.len = nd * 3)
    (kw : Kept (fun _ => True) V wc) (hG : wc.grownBy w5 (Value.slice na k ncap).ownBlock) (hO : w5.ownsRow 0 9 1 (.slice (some ⟨g, 0, none⟩) (k + 1) cap) (k + 1) (N.vals ++ [.string x])) (hat : (Value.slice na k ncap).ownBlock = some g ∨ g = wc.heap.size) :
    MO P M Lr V0 nc nd Cx Dx nm vars (k + 1) (N.app (.v (.string x) .nil)) pc (some ⟨gd, 0, none⟩) (some ⟨g, 0, none⟩) qc qd cap C D (w5.setCell ⟨gd, nd * 3 + 2, none⟩ (.slice (some ⟨g, 0, none⟩) (k + 1) cap)) ∧ w5.cell? ⟨gd, nd * 3 + 2, none⟩ = some (.slice na k ncap) ∧ w5.frozen? ⟨gd, nd * 3 + 2, none⟩ = false := by
  have hM := bm.lt
  have hPl : ∀ c, P c → c < wc.heap.size := fun c hc => by have := kw.size; have := pl c hc; omega
  have h0 := ((hp.keep kw).perm (rot3 _ _ _)).plain (.v (.string x) .nil) (fun _ _ => trivial) rfl
  have h1 := h0.perm (perm_b _ _ _)
  obtain ⟨h3, k3⟩ := h1.grow hPl hG hO (by
    rcases hat with e | e
    · exact .inl e.symm
    · rw [e]; exact .inr rfl)
  have hob : ∀ c, P c → (Value.slice na k ncap).ownBlock ≠ some c := fun c hc e => h1.fr c (by rw [bls_cons]; exact List.mem_append.2 (.inl (List.mem_append.2 (.inl (mem_ob.2 e))))) hc
  have kk : Kept (fun c => (Value.slice na k ncap).ownBlock ≠ some c) V w5 := (kw.mono (fun _ _ _ => trivial)).trans k3
  have m5 := bm.kept kk (hob M pm)
  have h4 := h3.perm (rot3 _ _ _)
  have e1 : ∀ y : Value, D.app (.v (.string nm) (.v (.int .i64 vars) (.v y .nil))) = (D.app (.v (.string nm) (.v (.int .i64 vars) .nil))).app (.v y .nil) := fun y => by rw [Fo.app_assoc]; rfl
  have e2 : (D.app (.v (.string nm) (.v (.int .i64 vars) .nil))).len = nd * 3 + 2 := by rw [Fo.app_len, hdl]; rfl
  rw [e1] at h4
  have h5 := h4.cell (.slice (some ⟨g, 0, none⟩) (k + 1) cap)
  rw [e2] at h5
  have hgd : ¬ P gd := fun hx => h4.fr gd (by rw [bls_cons]; exact List.mem_append.2 (.inl (List.mem_append.2 (.inl (mem_ob.2 rfl))))) hx
  have ks : Kept (fun c => c ≠ gd) w5 (w5.setCell ⟨gd, nd * 3 + 2, none⟩ (.slice (some ⟨g, 0, none⟩) (k + 1) cap)) := Kept.setCell _ _ _ _ (by simp)
  refine ⟨⟨m5.kept ks (fun e => hgd (by rw [← e]; exact pm)), ?_, hsc, hsd, hdl, ?_, pm, fun c hc => by have := pl c hc; have := kk.size; have := ks.size; omega⟩, ?_, h4.free _⟩
  · rw [e1]
    exact h5.perm (rot3 _ _ _)
  · exact (kp.trans (kk.mono (fun c _ hc => hob c hc.1))).trans (ks.mono (fun c _ hc e => hgd (by rw [← e]; exact hc.1)))
  · refine h4.at_ _ _ ?_
    rw [Fo.app_vals, List.getElem?_append_right (by rw [Fo.vals_length, e2]; omega), Fo.vals_length, e2, Nat.sub_self]
    rfl

set_option maxHeartbeats 4000000 in
set_option maxRecDepth 100000 in
theorem m_con {P : Nat → Prop} {M : Nat} {Lr : List Value} {V0 V : World} {nc nd : Nat} {Cx Dx : Fo} {nm : ByteArray} {vars : Int} {k : Nat} {N : Fo} {pc pd na : Option Addr} {qc qd ncap : Nat} {C D : Fo} (h : MO P M Lr V0 nc nd Cx Dx nm vars k N pc pd na qc qd ncap C D V) (x : ByteArray) (fa : Option Addr) (fn fc : Nat) (Fk Fx : Fo) (hsf : Fk.sim Fx)
    (hp : Hp P [.row 43 5 (.slice pc nc qc) nc C, .row 124 3 (.slice pd (nd + 1) qd) (nd + 1) (D.app (.v (.string nm) (.v (.int .i64 vars) (.v (.slice na k ncap) .nil)))), .row 9 1 (.slice na k ncap) k N, .fo (.s fa fn fc Fk .nil)] V) (hnc : nc ≤ 1000) (hk : k ≤ 1000) (hnd : nd ≤ 1000) :
    Calls Try.prog 30 #[.agg #[.pointer (some ⟨M, 0, none⟩), .int .i64 nd], .string x, .slice fa fn fc] V fun e V' => ∃ pc' qc' na' ncap' C', e = .returned (.tuple #[]) ∧ Hid (MO P M Lr V0 (nc + 1) nd (Cx.app (con5 x nm k vars none fn 0 Fx)) Dx nm vars (k + 1) (N.app (.v (.string x) .nil)) pc' pd na' qc' qd ncap' C' D V') := by
  have hrd := ((h.hp.perm (perm_b _ _ _)).ok _ List.mem_cons_self).1
  obtain ⟨gd, rfl⟩ : ∃ gd, pd = some ⟨gd, 0, none⟩ := by
    rcases hrd.2 with ⟨e1, e2⟩ | ⟨g, c1, c2, e, _⟩
    · omega
    · cases e; exact ⟨g, rfl⟩
  have hcD := (h.hp.perm (perm_b _ _ _)).at_
  have hvD : (D.app (.v (.string nm) (.v (.int .i64 vars) (.v (.slice na k ncap) .nil)))).vals = D.vals ++ [.string nm, .int .i64 vars, .slice na k ncap] := by rw [Fo.app_vals]; rfl
  have hlD : D.vals.length = nd * 3 := by rw [Fo.vals_length, h.dl]
  have d0 : V.cell? ⟨gd, nd * 3, none⟩ = some (.string nm) := hcD _ _ (by rw [hvD, List.getElem?_append_right (by omega), hlD, Nat.sub_self]; rfl)
  have d1 : V.cell? ⟨gd, nd * 3 + 1, none⟩ = some (.int .i64 vars) := hcD _ _ (by rw [hvD, List.getElem?_append_right (by omega), hlD, Nat.add_sub_cancel_left]; rfl)
  have d2 : V.cell? ⟨gd, nd * 3 + 2, none⟩ = some (.slice na k ncap) := hcD _ _ (by rw [hvD, List.getElem?_append_right (by omega), hlD, Nat.add_sub_cancel_left]; rfl)
  have hgl := block_lt_of_cell d0
  have hMl := h.bm.lt
  obtain ⟨V1, hV1⟩ : ∃ V1, V.alloc (.cells #[.pointer (some ⟨M, 0, none⟩), .int .i64 nd] 62) = V1 := ⟨_, rfl⟩
  have k1 : Kept (fun _ => True) V V1 := by rw [← hV1]; exact Kept.alloc _ _ _
  have b1 : Bx V1 V.heap.size [.pointer (some ⟨M, 0, none⟩), .int .i64 nd] := by rw [← hV1]; exact Bx.new _ _ _
  have HSQ : Hid (∀ W, Kept (fun _ => True) V1 W → W.cell? ⟨V.heap.size, 0, none⟩ = some (.pointer (some ⟨M, 0, none⟩)) ∧ W.cell? ⟨V.heap.size, 1, none⟩ = some (.int .i64 nd) ∧ W.cell? ⟨M, 0, none⟩ = some (.slice pc nc qc) ∧ W.cell? ⟨M, 1, none⟩ = some (.slice (some ⟨gd, 0, none⟩) (nd + 1) qd) ∧ W.cell? ⟨gd, nd * 3, none⟩ = some (.string nm) ∧ W.cell? ⟨gd, nd * 3 + 1, none⟩ = some (.int .i64 vars) ∧ W.cell? ⟨gd, nd * 3 + 2, none⟩ = some (.slice na k ncap)) := fun W kW => by
    have kk := k1.trans kW
    have bb := b1.kept kW trivial
    have mm := h.bm.kept kk trivial
    exact ⟨bb.cel 0 _ rfl, bb.cel 1 _ rfl, mm.cel 0 _ rfl, mm.cel 1 _ rfl, (kk.cell (p := ⟨gd, nd * 3, none⟩) hgl trivial).trans d0, (kk.cell (p := ⟨gd, nd * 3 + 1, none⟩) hgl trivial).trans d1, (kk.cell (p := ⟨gd, nd * 3 + 2, none⟩) hgl trivial).trans d2⟩
  have HH := hide h
  have HHP := hide hp
  have HK1 := hide k1
  have HC43 : Hid (∀ W, Kept (fun _ => True) V1 W → W.ownsRow 0 43 5 (.slice pc nc qc) nc C.vals) := fun W kW => ownsRow_kept (HHP.out.ok _ List.mem_cons_self).1 (HK1.out.trans kW) (fun _ _ => trivial)
  have H63 : Hid (nc + 1 ≤ maxLen ∧ (nc + 1) * 72 ≤ 140737488355328) := ⟨by unfold maxLen; omega, by omega⟩
  have h63 : Hid (k + 1 ≤ maxLen ∧ (k + 1) * 16 ≤ 140737488355328) := ⟨by unfold maxLen; omega, by omega⟩
  have HCA : Hid (∀ wc w5 g cap, Kept (fun _ => True) V1 wc → wc.grownBy w5 (Value.slice pc nc qc).ownBlock → w5.ownsRow 0 43 5 (.slice (some ⟨g, 0, none⟩) (nc + 1) cap) (nc + 1) (C.vals ++ [.string x, .string nm, .int .i64 k, .int .i64 vars, .slice fa fn fc]) → ((Value.slice pc nc qc).ownBlock = some g ∨ g = wc.heap.size) → _) :=
    fun wc w5 g cap kW hG hO hat => con_a (Fk := Fk) HH.out.bm HHP.out HH.out.pm HH.out.pl HH.out.kp (HK1.out.trans kW) hG hO hat
  have hnP := (hp.perm (rot4 _ _ _ _)).tail
  have HNE : Hid ((Value.slice pc nc qc).ownBlock ≠ some gd ∧ (Value.slice pc nc qc).ownBlock ≠ some V.heap.size ∧ M ≠ gd ∧ M ≠ V.heap.size) := by
    have hnd' := h.hp.nd
    simp only [bls_cons, Item.bl, List.append_assoc] at hnd'
    obtain ⟨n1, n2, n3⟩ := List.nodup_append.1 hnd'
    refine ⟨fun e => n3 gd (mem_ob.2 e) gd (List.mem_append.2 (.inr (List.mem_append.2 (.inl (mem_ob.2 rfl))))) rfl, fun e => ?_, fun e => ?_, by omega⟩
    · have := ownBlock_lt (h.hp.ok _ List.mem_cons_self).1 e
      omega
    · exact h.hp.fr gd (by simp only [bls_cons, Item.bl, List.append_assoc]; exact List.mem_append.2 (.inr (List.mem_append.2 (.inr (List.mem_append.2 (.inl (mem_ob.2 rfl))))))) (by rw [← e]; exact h.pm)
  have HS4 : Hid (∀ W, Kept (fun _ => True) V1 W → W.cell? ⟨V.heap.size, 0, none⟩ = some (.pointer (some ⟨M, 0, none⟩)) ∧ W.cell? ⟨gd, nd * 3, none⟩ = some (.string nm) ∧ W.cell? ⟨gd, nd * 3 + 1, none⟩ = some (.int .i64 vars) ∧ W.cell? ⟨gd, nd * 3 + 2, none⟩ = some (.slice na k ncap)) := fun W kW => by
    obtain ⟨s0, s1, s2, s3, s4, s5, s6⟩ := HSQ.out W kW
    exact ⟨s0, s4, s5, s6⟩
  have HS5 : Hid (∀ wc w5 u, Kept (fun _ => True) V1 wc → wc.grownBy w5 (Value.slice pc nc qc).ownBlock → (w5.cell? ⟨V.heap.size, 0, none⟩ = some (.pointer (some ⟨M, 0, none⟩)) ∧ w5.cell? ⟨gd, nd * 3, none⟩ = some (.string nm) ∧ w5.cell? ⟨gd, nd * 3 + 1, none⟩ = some (.int .i64 vars) ∧ w5.cell? ⟨gd, nd * 3 + 2, none⟩ = some (.slice na k ncap)) ∧ ((w5.setCell ⟨M, 0, none⟩ u).cell? ⟨V.heap.size, 0, none⟩ = some (.pointer (some ⟨M, 0, none⟩)) ∧ (w5.setCell ⟨M, 0, none⟩ u).cell? ⟨gd, nd * 3, none⟩ = some (.string nm) ∧ (w5.setCell ⟨M, 0, none⟩ u).cell? ⟨gd, nd * 3 + 1, none⟩ = some (.int .i64 vars) ∧ (w5.setCell ⟨M, 0, none⟩ u).cell? ⟨gd, nd * 3 + 2, none⟩ = some (.slice na k ncap))) := fun wc w5 u kW hG => by
    obtain ⟨n1, n2, n3, n4⟩ := HNE.out
    obtain ⟨s0, s4, s5, s6⟩ := HS4.out wc kW
    have kg : Kept (fun c => (Value.slice pc nc qc).ownBlock ≠ some c) wc w5 := Kept.grown hG (fun c e1 e2 => e2 e1)
    have kz := (HK1.out.trans kW).size
    have kz1 := block_lt_of_cell s0
    have kz2 := block_lt_of_cell s4
    have t0 := (kg.cell (p := ⟨V.heap.size, 0, none⟩) kz1 n2).trans s0
    have t4 := (kg.cell (p := ⟨gd, nd * 3, none⟩) kz2 n1).trans s4
    have t5 := (kg.cell (p := ⟨gd, nd * 3 + 1, none⟩) kz2 n1).trans s5
    have t6 := (kg.cell (p := ⟨gd, nd * 3 + 2, none⟩) kz2 n1).trans s6
    refine ⟨⟨t0, t4, t5, t6⟩, ?_, ?_, ?_, ?_⟩
    · exact (World.cell?_setCell_other _ _ _ _ (fun e => n4 (congrArg Addr.block e))).trans t0
    · exact (World.cell?_setCell_other _ _ _ _ (fun e => n3 (congrArg Addr.block e))).trans t4
    · exact (World.cell?_setCell_other _ _ _ _ (fun e => n3 (congrArg Addr.block e))).trans t5
    · exact (World.cell?_setCell_other _ _ _ _ (fun e => n3 (congrArg Addr.block e))).trans t6
  have hii : (nd : Int) < nd + 1 := by omega
  clear hnP
  have hv1 := hV1
  have HV1 := hide hV1
  obtain ⟨s0, s1, s2, s3, s4, s5, s6⟩ := HSQ.out V1 (Kept.refl _ _)
  clear hv1 hV1 h hp k1 b1 d0 d1 d2 hcD hvD hlD hrd hMl hgl
  go_enter Try.func30, Try.ntmps30
  go_upto_region 1 with fail
  rw [HV1.out]
  clear HV1
  go_cut [6] (fun s6 wx => s6 = .pointer (some ⟨gd, nd * 3, none⟩) ∧ Kept (fun _ => True) V1 wx)
  case first =>
    go_region_law (fail)
    all_goals
      go_wp2_with fail
      go_meet
      case rel => exact ⟨rfl, by repeat first | with_reducible exact Kept.refl _ _ | with_reducible refine Kept.dr ?_⟩
  case rest =>
    obtain ⟨rfl, kx⟩ := hcut
    rename World => wx
    have HKX := hide kx
    obtain ⟨s0, s1, s2, s3, s4, s5, s6⟩ := HSQ.out wx kx
    have HSA : Hid (∀ o, (wx.alloc o).cell? ⟨V.heap.size, 0, none⟩ = some (.pointer (some ⟨M, 0, none⟩)) ∧ (wx.alloc o).cell? ⟨M, 0, none⟩ = some (.slice pc nc qc)) := fun o => by
      obtain ⟨s0, s1, s2, s3, s4, s5, s6⟩ := HSQ.out (wx.alloc o) kx.al
      exact ⟨s0, s2⟩
    clear kx
    have u0 := (HSA.out (.cells #[.string x, .string nm, .int .i64 k, .int .i64 vars, .slice fa fn fc] 43)).1
    have u1 := (HSA.out (.cells #[.string x, .string nm, .int .i64 k, .int .i64 vars, .slice fa fn fc] 43)).2
    go_upto_region 2 with fail
    go_cut [] (fun wy => ∃ g cap, Hid (Bx wy M (.slice (some ⟨g, 0, none⟩) (nc + 1) cap :: .slice (some ⟨gd, 0, none⟩) (nd + 1) qd :: Lr) ∧ Hp P [.row 43 5 (.slice (some ⟨g, 0, none⟩) (nc + 1) cap) (nc + 1) (C.app (con5 x nm k vars fa fn fc Fk)), .row 124 3 (.slice (some ⟨gd, 0, none⟩) (nd + 1) qd) (nd + 1) (D.app (.v (.string nm) (.v (.int .i64 vars) (.v (.slice na k ncap) .nil)))), .row 9 1 (.slice na k ncap) k N] wy ∧ Kept (fun c => P c ∧ c ≠ M) V0 wy ∧ V.heap.size ≤ wy.heap.size))
    case first =>
      have SS := HS4.out wx.drew HKX.out.dr
      refine wp_region_held_drew (S := (fun W => W.cell? ⟨V.heap.size, 0, none⟩ = some (.pointer (some ⟨M, 0, none⟩)) ∧ W.cell? ⟨gd, nd * 3, none⟩ = some (.string nm) ∧ W.cell? ⟨gd, nd * 3 + 1, none⟩ = some (.int .i64 vars) ∧ W.cell? ⟨gd, nd * 3 + 2, none⟩ = some (.slice na k ncap))) (by kernel_rfl) SS (fun hHeld => ?_)
      refine' wpAnyH_take (i := 0) (oi := { dst := some 15, op := Op.fieldAddr 62 (Operand.tmp 3) 0, type := 0, pos := "l9_tables.go:48", after := #[], guard := none }) (v := _) rfl (by kernel_rfl) (by kernel_rfl) (by kernel_rfl) (fun _ _ _ h => h) (Or.inl ⟨by rfl, ?hy0⟩) (by assumption) ?rest0
      case hy0 => (intro w hSw; (try dsimp only at hSw); go_simp; (try with_reducible rfl))
      try simp only [Act.put, List.setIfInBounds_toArray, List.set_cons_zero, List.set_cons_succ]
      refine' wpAnyH_take (i := 1) (oi := { dst := some 16, op := Op.load 60 (Operand.tmp 15), type := 60, pos := "l9_tables.go:48", after := #[{ on := 0, ground := Ground.data }], guard := none }) (v := _) rfl (by kernel_rfl) (by kernel_rfl) (by kernel_rfl) (fun _ _ _ h => h) (Or.inl ⟨by rfl, ?hy1⟩) (by assumption) ?rest1
      case hy1 => (intro w hSw; (try dsimp only at hSw); go_simp; (try with_reducible rfl))
      try simp only [Act.put, List.setIfInBounds_toArray, List.set_cons_zero, List.set_cons_succ]
      refine' wpAnyH_take (i := 2) (oi := { dst := some 17, op := Op.fieldAddr 62 (Operand.tmp 3) 0, type := 0, pos := "l9_tables.go:48", after := #[], guard := none }) (v := _) rfl (by kernel_rfl) (by kernel_rfl) (by kernel_rfl) (fun _ _ _ h => h) (Or.inl ⟨by rfl, ?hy2⟩) (by assumption) ?rest2
      case hy2 => (intro w hSw; (try dsimp only at hSw); go_simp; (try with_reducible rfl))
      try simp only [Act.put, List.setIfInBounds_toArray, List.set_cons_zero, List.set_cons_succ]
      refine' wpAnyH_take (i := 3) (oi := { dst := some 18, op := Op.load 60 (Operand.tmp 17), type := 60, pos := "l9_tables.go:48", after := #[{ on := 2, ground := Ground.data }], guard := none }) (v := _) rfl (by kernel_rfl) (by kernel_rfl) (by kernel_rfl) (fun _ _ _ h => h) (Or.inl ⟨by rfl, ?hy3⟩) (by assumption) ?rest3
      case hy3 => (intro w hSw; (try dsimp only at hSw); go_simp; (try with_reducible rfl))
      try simp only [Act.put, List.setIfInBounds_toArray, List.set_cons_zero, List.set_cons_succ]
      refine' wpAnyH_take (i := 4) (oi := { dst := some 19, op := Op.nilCheck (Operand.tmp 18), type := 0, pos := "l9_tables.go:48", after := #[{ on := 3, ground := Ground.data }], guard := none }) (v := _) rfl (by kernel_rfl) (by kernel_rfl) (by kernel_rfl) (fun _ _ _ h => h) (Or.inl ⟨by rfl, ?hy4⟩) (by assumption) ?rest4
      case hy4 => (intro w hSw; (try dsimp only at hSw); go_simp; (try with_reducible rfl))
      try simp only [Act.put, List.setIfInBounds_toArray, List.set_cons_zero, List.set_cons_succ]
      refine' wpAnyH_take (i := 5) (oi := { dst := some 20, op := Op.fieldAddr 28 (Operand.tmp 19) 0, type := 0, pos := "l9_tables.go:48", after := #[{ on := 4, ground := Ground.data }], guard := none }) (v := _) rfl (by kernel_rfl) (by kernel_rfl) (by kernel_rfl) (fun _ _ _ h => h) (Or.inl ⟨by rfl, ?hy5⟩) (by assumption) ?rest5
      case hy5 => (intro w hSw; (try dsimp only at hSw); go_simp; (try with_reducible rfl))
      try simp only [Act.put, List.setIfInBounds_toArray, List.set_cons_zero, List.set_cons_succ]
      refine' wpAnyH_take (i := 7) (oi := { dst := some 22, op := Op.move (Operand.tmp 1), type := 9, pos := "l9_tables.go:48", after := #[], guard := none }) (v := _) rfl (by kernel_rfl) (by kernel_rfl) (by kernel_rfl) (fun _ _ _ h => h) (Or.inl ⟨by rfl, ?hy7⟩) (by assumption) ?rest7
      case hy7 => (intro w hSw; (try dsimp only at hSw); go_simp; (try with_reducible rfl))
      try simp only [Act.put, List.setIfInBounds_toArray, List.set_cons_zero, List.set_cons_succ]
      refine' wpAnyH_take (i := 8) (oi := { dst := some 23, op := Op.move (Operand.tmp 6), type := 125, pos := "l9_tables.go:48", after := #[], guard := none }) (v := _) rfl (by kernel_rfl) (by kernel_rfl) (by kernel_rfl) (fun _ _ _ h => h) (Or.inl ⟨by rfl, ?hy8⟩) (by assumption) ?rest8
      case hy8 => (intro w hSw; (try dsimp only at hSw); go_simp; (try with_reducible rfl))
      try simp only [Act.put, List.setIfInBounds_toArray, List.set_cons_zero, List.set_cons_succ]
      refine' wpAnyH_take (i := 9) (oi := { dst := some 24, op := Op.nilCheck (Operand.tmp 23), type := 0, pos := "l9_tables.go:48", after := #[{ on := 8, ground := Ground.data }], guard := none }) (v := _) rfl (by kernel_rfl) (by kernel_rfl) (by kernel_rfl) (fun _ _ _ h => h) (Or.inl ⟨by rfl, ?hy9⟩) (by assumption) ?rest9
      case hy9 => (intro w hSw; (try dsimp only at hSw); go_simp; (try with_reducible rfl))
      try simp only [Act.put, List.setIfInBounds_toArray, List.set_cons_zero, List.set_cons_succ]
      refine' wpAnyH_take (i := 10) (oi := { dst := some 25, op := Op.fieldAddr 124 (Operand.tmp 24) 0, type := 0, pos := "l9_tables.go:48", after := #[{ on := 9, ground := Ground.data }], guard := none }) (v := _) rfl (by kernel_rfl) (by kernel_rfl) (by kernel_rfl) (fun _ _ _ h => h) (Or.inl ⟨by rfl, ?hy10⟩) (by assumption) ?rest10
      case hy10 => (intro w hSw; (try dsimp only at hSw); go_simp; (try with_reducible rfl))
      try simp only [Act.put, List.setIfInBounds_toArray, List.set_cons_zero, List.set_cons_succ]
      refine' wpAnyH_take (i := 11) (oi := { dst := some 26, op := Op.load 9 (Operand.tmp 25), type := 9, pos := "l9_tables.go:48", after := #[{ on := 10, ground := Ground.data }], guard := none }) (v := _) rfl (by kernel_rfl) (by kernel_rfl) (by kernel_rfl) (fun _ _ _ h => h) (Or.inl ⟨by rfl, ?hy11⟩) (by assumption) ?rest11
      case hy11 => (intro w hSw; (try dsimp only at hSw); go_simp; (try with_reducible rfl))
      try simp only [Act.put, List.setIfInBounds_toArray, List.set_cons_zero, List.set_cons_succ]
      refine' wpAnyH_take (i := 12) (oi := { dst := some 27, op := Op.move (Operand.tmp 6), type := 125, pos := "l9_tables.go:48", after := #[], guard := none }) (v := _) rfl (by kernel_rfl) (by kernel_rfl) (by kernel_rfl) (fun _ _ _ h => h) (Or.inl ⟨by rfl, ?hy12⟩) (by assumption) ?rest12
      case hy12 => (intro w hSw; (try dsimp only at hSw); go_simp; (try with_reducible rfl))
      try simp only [Act.put, List.setIfInBounds_toArray, List.set_cons_zero, List.set_cons_succ]
      refine' wpAnyH_take (i := 13) (oi := { dst := some 28, op := Op.nilCheck (Operand.tmp 27), type := 0, pos := "l9_tables.go:48", after := #[{ on := 12, ground := Ground.data }], guard := none }) (v := _) rfl (by kernel_rfl) (by kernel_rfl) (by kernel_rfl) (fun _ _ _ h => h) (Or.inl ⟨by rfl, ?hy13⟩) (by assumption) ?rest13
      case hy13 => (intro w hSw; (try dsimp only at hSw); go_simp; (try with_reducible rfl))
      try simp only [Act.put, List.setIfInBounds_toArray, List.set_cons_zero, List.set_cons_succ]
      refine' wpAnyH_take (i := 14) (oi := { dst := some 29, op := Op.fieldAddr 124 (Operand.tmp 28) 2, type := 0, pos := "l9_tables.go:48", after := #[{ on := 13, ground := Ground.data }], guard := none }) (v := _) rfl (by kernel_rfl) (by kernel_rfl) (by kernel_rfl) (fun _ _ _ h => h) (Or.inl ⟨by rfl, ?hy14⟩) (by assumption) ?rest14
      case hy14 => (intro w hSw; (try dsimp only at hSw); go_simp; (try with_reducible rfl))
      try simp only [Act.put, List.setIfInBounds_toArray, List.set_cons_zero, List.set_cons_succ]
      refine' wpAnyH_take (i := 15) (oi := { dst := some 30, op := Op.load 56 (Operand.tmp 29), type := 56, pos := "l9_tables.go:48", after := #[{ on := 14, ground := Ground.data }], guard := none }) (v := _) rfl (by kernel_rfl) (by kernel_rfl) (by kernel_rfl) (fun _ _ _ h => h) (Or.inl ⟨by rfl, ?hy15⟩) (by assumption) ?rest15
      case hy15 => (intro w hSw; (try dsimp only at hSw); go_simp; (try with_reducible rfl))
      try simp only [Act.put, List.setIfInBounds_toArray, List.set_cons_zero, List.set_cons_succ]
      refine' wpAnyH_take (i := 16) (oi := { dst := some 31, op := Op.call { callee := Callee.builtin Builtin.len, args := #[Operand.tmp 30], argTypes := #[56] }, type := 3, pos := "l9_tables.go:48", after := #[{ on := 15, ground := Ground.data }], guard := none }) (v := _) rfl (by kernel_rfl) (by kernel_rfl) (by kernel_rfl) (fun _ _ _ h => h) (Or.inl ⟨by rfl, ?hy16⟩) (by assumption) ?rest16
      case hy16 => (intro w hSw; (try dsimp only at hSw); go_simp; (try with_reducible rfl))
      try simp only [Act.put, List.setIfInBounds_toArray, List.set_cons_zero, List.set_cons_succ]
      refine' wpAnyH_take (i := 17) (oi := { dst := some 32, op := Op.move (Operand.tmp 6), type := 125, pos := "l9_tables.go:48", after := #[], guard := none }) (v := _) rfl (by kernel_rfl) (by kernel_rfl) (by kernel_rfl) (fun _ _ _ h => h) (Or.inl ⟨by rfl, ?hy17⟩) (by assumption) ?rest17
      case hy17 => (intro w hSw; (try dsimp only at hSw); go_simp; (try with_reducible rfl))
      try simp only [Act.put, List.setIfInBounds_toArray, List.set_cons_zero, List.set_cons_succ]
      refine' wpAnyH_take (i := 18) (oi := { dst := some 33, op := Op.nilCheck (Operand.tmp 32), type := 0, pos := "l9_tables.go:48", after := #[{ on := 17, ground := Ground.data }], guard := none }) (v := _) rfl (by kernel_rfl) (by kernel_rfl) (by kernel_rfl) (fun _ _ _ h => h) (Or.inl ⟨by rfl, ?hy18⟩) (by assumption) ?rest18
      case hy18 => (intro w hSw; (try dsimp only at hSw); go_simp; (try with_reducible rfl))
      try simp only [Act.put, List.setIfInBounds_toArray, List.set_cons_zero, List.set_cons_succ]
      refine' wpAnyH_take (i := 19) (oi := { dst := some 34, op := Op.fieldAddr 124 (Operand.tmp 33) 1, type := 0, pos := "l9_tables.go:48", after := #[{ on := 18, ground := Ground.data }], guard := none }) (v := _) rfl (by kernel_rfl) (by kernel_rfl) (by kernel_rfl) (fun _ _ _ h => h) (Or.inl ⟨by rfl, ?hy19⟩) (by assumption) ?rest19
      case hy19 => (intro w hSw; (try dsimp only at hSw); go_simp; (try with_reducible rfl))
      try simp only [Act.put, List.setIfInBounds_toArray, List.set_cons_zero, List.set_cons_succ]
      refine' wpAnyH_take (i := 20) (oi := { dst := some 35, op := Op.load 2 (Operand.tmp 34), type := 2, pos := "l9_tables.go:48", after := #[{ on := 19, ground := Ground.data }], guard := none }) (v := _) rfl (by kernel_rfl) (by kernel_rfl) (by kernel_rfl) (fun _ _ _ h => h) (Or.inl ⟨by rfl, ?hy20⟩) (by assumption) ?rest20
      case hy20 => (intro w hSw; (try dsimp only at hSw); go_simp; (try with_reducible rfl))
      try simp only [Act.put, List.setIfInBounds_toArray, List.set_cons_zero, List.set_cons_succ]
      refine' wpAnyH_take (i := 21) (oi := { dst := some 36, op := Op.move (Operand.tmp 2), type := 41, pos := "l9_tables.go:48", after := #[], guard := none }) (v := _) rfl (by kernel_rfl) (by kernel_rfl) (by kernel_rfl) (fun _ _ _ h => h) (Or.inl ⟨by rfl, ?hy21⟩) (by assumption) ?rest21
      case hy21 => (intro w hSw; (try dsimp only at hSw); go_simp; (try with_reducible rfl))
      try simp only [Act.put, List.setIfInBounds_toArray, List.set_cons_zero, List.set_cons_succ]
      refine' wpAnyH_take (i := 22) (oi := { dst := some 37, op := Op.build 43 #[(0, Operand.tmp 22), (1, Operand.tmp 26), (2, Operand.tmp 31), (3, Operand.tmp 35), (4, Operand.tmp 36)], type := 43, pos := "l9_tables.go:48", after := #[{ on := 7, ground := Ground.data }, { on := 11, ground := Ground.data }, { on := 16, ground := Ground.data }, { on := 20, ground := Ground.data }, { on := 21, ground := Ground.data }], guard := none }) (v := _) rfl (by kernel_rfl) (by kernel_rfl) (by kernel_rfl) (fun _ _ _ h => h) (Or.inl ⟨by rfl, ?hy22⟩) (by assumption) ?rest22
      case hy22 => (intro w hSw; (try dsimp only at hSw); go_simp; (try with_reducible rfl))
      try simp only [Act.put, List.setIfInBounds_toArray, List.set_cons_zero, List.set_cons_succ]
      refine wpAnyH_ready (rs := [6, 23]) (by kernel_rfl) (by simp) ?_
      refine AllReadyH.cons (o := { dst := some 21, op := Op.load 22 (Operand.tmp 20), type := 22, pos := "l9_tables.go:48", after := #[{ on := 5, ground := Ground.data }], guard := none }) rfl (fun K hK => ?_) (AllReadyH.cons (o := { dst := some 38, op := Op.buildSlice 22 1 #[(0, Operand.tmp 37)], type := 22, pos := "l9_tables.go:48", after := #[{ on := 22, ground := Ground.data }], guard := none }) rfl (fun K hK => ?_) AllReadyH.nil)
      · go_simp
        refine hK.out _ _ (by assumption) (fun hHeld => ?_)
        clear hK K
        try simp only [Act.put, List.setIfInBounds_toArray, List.set_cons_zero, List.set_cons_succ]
        refine wpAnyH_ready (rs := [23]) (by kernel_rfl) (by simp) ?_
        refine AllReadyH.cons (o := { dst := some 38, op := Op.buildSlice 22 1 #[(0, Operand.tmp 37)], type := 22, pos := "l9_tables.go:48", after := #[{ on := 22, ground := Ground.data }], guard := none }) rfl (fun K hK => ?_) AllReadyH.nil
        go_simp
        refine hK.out _ _ (HS4.out _ (by repeat first | with_reducible exact HKX.out | with_reducible refine Kept.al ?_ | with_reducible refine Kept.dr ?_)) (fun hHeld => ?_)
        clear hK K
        try simp only [Act.put, List.setIfInBounds_toArray, List.set_cons_zero, List.set_cons_succ]
        refine wpAnyH_ready (rs := [24]) (by kernel_rfl) (by simp) ?_
        refine AllReadyH.cons (o := { dst := some 39, op := Op.call { callee := Callee.builtin Builtin.append, args := #[Operand.tmp 21, Operand.tmp 38], argTypes := #[22, 22] }, type := 22, pos := "l9_tables.go:48", after := #[{ on := 6, ground := Ground.data }, { on := 23, ground := Ground.data }], guard := none }) rfl (fun K hK => ?_) AllReadyH.nil
        refine ur_draw (by rfl) _ _ 22 43 (by rfl) Try.info43 Try.underlying22 rfl (by decide) 0 _ (.slice pc nc qc) nc C.vals [.string x, .string nm, .int .i64 k, .int .i64 vars, .slice fa fn fc] _ _ (by rfl) (HC43.out _ (by repeat first | with_reducible exact HKX.out | with_reducible refine Kept.al ?_ | with_reducible refine Kept.dr ?_)) (by rfl) (by first | with_reducible exact heap_new _ _ | with_reducible exact heap_new_dr _ _) (Nat.zero_le _) (by rfl) (by simp [Value.oneCell']) H63.out.1 H63.out.2 ?_
        intro g8 c8 w5 hO8 hG8 hat8
        obtain ⟨hb8, q8⟩ := HCA.out _ w5 g8 c8 (by repeat first | with_reducible exact HKX.out | with_reducible refine Kept.al ?_ | with_reducible refine Kept.dr ?_) hG8 hO8 hat8
        obtain ⟨S8, S9⟩ := HS5.out _ w5 (.slice (some ⟨g8, 0, none⟩) (nc + 1) c8) (by repeat first | with_reducible exact HKX.out | with_reducible refine Kept.al ?_ | with_reducible refine Kept.dr ?_) hG8
        have r0 := q8.cel 0 _ rfl
        have f0 := q8.live 0
        have HB8 := hide hb8
        clear hO8 hG8 hat8 hb8 q8
        refine hK.out _ _ S8 (fun hHeld => ?_)
        clear hK K
        try simp only [Act.put, List.setIfInBounds_toArray, List.set_cons_zero, List.set_cons_succ]
        refine' wpAnyH_take (i := 25) (oi := { dst := some 40, op := Op.nilCheck (Operand.tmp 16), type := 0, pos := "l9_tables.go:48", after := #[{ on := 1, ground := Ground.data }, { on := 0, ground := Ground.phase }, { on := 1, ground := Ground.phase }, { on := 2, ground := Ground.phase }, { on := 3, ground := Ground.phase }, { on := 4, ground := Ground.phase }, { on := 5, ground := Ground.phase }, { on := 6, ground := Ground.phase }, { on := 7, ground := Ground.phase }, { on := 8, ground := Ground.phase }, { on := 9, ground := Ground.phase }, { on := 10, ground := Ground.phase }, { on := 11, ground := Ground.phase }, { on := 12, ground := Ground.phase }, { on := 13, ground := Ground.phase }, { on := 14, ground := Ground.phase }, { on := 15, ground := Ground.phase }, { on := 16, ground := Ground.phase }, { on := 17, ground := Ground.phase }, { on := 18, ground := Ground.phase }, { on := 19, ground := Ground.phase }, { on := 20, ground := Ground.phase }, { on := 21, ground := Ground.phase }, { on := 22, ground := Ground.phase }, { on := 23, ground := Ground.phase }, { on := 24, ground := Ground.phase }], guard := none }) (v := _) rfl (by kernel_rfl) (by kernel_rfl) (by kernel_rfl) (fun _ _ _ h => h) (Or.inl ⟨by rfl, ?hy25⟩) (by assumption) ?rest25
        case hy25 => (intro w hSw; (try dsimp only at hSw); go_simp; (try with_reducible rfl))
        try simp only [Act.put, List.setIfInBounds_toArray, List.set_cons_zero, List.set_cons_succ]
        refine' wpAnyH_take (i := 26) (oi := { dst := some 41, op := Op.fieldAddr 28 (Operand.tmp 40) 0, type := 0, pos := "l9_tables.go:48", after := #[{ on := 25, ground := Ground.data }, { on := 0, ground := Ground.phase }, { on := 1, ground := Ground.phase }, { on := 2, ground := Ground.phase }, { on := 3, ground := Ground.phase }, { on := 4, ground := Ground.phase }, { on := 5, ground := Ground.phase }, { on := 6, ground := Ground.phase }, { on := 7, ground := Ground.phase }, { on := 8, ground := Ground.phase }, { on := 9, ground := Ground.phase }, { on := 10, ground := Ground.phase }, { on := 11, ground := Ground.phase }, { on := 12, ground := Ground.phase }, { on := 13, ground := Ground.phase }, { on := 14, ground := Ground.phase }, { on := 15, ground := Ground.phase }, { on := 16, ground := Ground.phase }, { on := 17, ground := Ground.phase }, { on := 18, ground := Ground.phase }, { on := 19, ground := Ground.phase }, { on := 20, ground := Ground.phase }, { on := 21, ground := Ground.phase }, { on := 22, ground := Ground.phase }, { on := 23, ground := Ground.phase }, { on := 24, ground := Ground.phase }], guard := none }) (v := _) rfl (by kernel_rfl) (by kernel_rfl) (by kernel_rfl) (fun _ _ _ h => h) (Or.inl ⟨by rfl, ?hy26⟩) (by assumption) ?rest26
        case hy26 => (intro w hSw; (try dsimp only at hSw); go_simp; (try with_reducible rfl))
        try simp only [Act.put, List.setIfInBounds_toArray, List.set_cons_zero, List.set_cons_succ]
        refine wpAnyH_ready (rs := [27]) (by kernel_rfl) (by simp) ?_
        refine AllReadyH.cons (o := { dst := none, op := Op.store 22 (Operand.tmp 41) (Operand.tmp 39), type := 0, pos := "l9_tables.go:48", after := #[{ on := 26, ground := Ground.data }, { on := 24, ground := Ground.data }, { on := 24, ground := Ground.chain }, { on := 0, ground := Ground.phase }, { on := 1, ground := Ground.phase }, { on := 2, ground := Ground.phase }, { on := 3, ground := Ground.phase }, { on := 4, ground := Ground.phase }, { on := 5, ground := Ground.phase }, { on := 6, ground := Ground.phase }, { on := 7, ground := Ground.phase }, { on := 8, ground := Ground.phase }, { on := 9, ground := Ground.phase }, { on := 10, ground := Ground.phase }, { on := 11, ground := Ground.phase }, { on := 12, ground := Ground.phase }, { on := 13, ground := Ground.phase }, { on := 14, ground := Ground.phase }, { on := 15, ground := Ground.phase }, { on := 16, ground := Ground.phase }, { on := 17, ground := Ground.phase }, { on := 18, ground := Ground.phase }, { on := 19, ground := Ground.phase }, { on := 20, ground := Ground.phase }, { on := 21, ground := Ground.phase }, { on := 22, ground := Ground.phase }, { on := 23, ground := Ground.phase }, { on := 24, ground := Ground.phase }], guard := none }) rfl (fun K hK => ?_) AllReadyH.nil
        go_simp
        refine hK.out _ _ S9 (fun hHeld => ?_)
        clear hK K
        try simp only [Act.put, List.setIfInBounds_toArray, List.set_cons_zero, List.set_cons_succ]
        refine wpAnyH_done (by kernel_rfl) ?_ _
        go_wp2_with fail
        go_meet
        case rel => exact ⟨_, _, HB8.out _ rfl⟩
      · go_simp
        refine hK.out _ _ (HS4.out _ (by repeat first | with_reducible exact HKX.out | with_reducible refine Kept.al ?_ | with_reducible refine Kept.dr ?_)) (fun hHeld => ?_)
        clear hK K
        try simp only [Act.put, List.setIfInBounds_toArray, List.set_cons_zero, List.set_cons_succ]
        refine wpAnyH_ready (rs := [6]) (by kernel_rfl) (by simp) ?_
        refine AllReadyH.cons (o := { dst := some 21, op := Op.load 22 (Operand.tmp 20), type := 22, pos := "l9_tables.go:48", after := #[{ on := 5, ground := Ground.data }], guard := none }) rfl (fun K hK => ?_) AllReadyH.nil
        go_simp
        refine hK.out _ _ (by assumption) (fun hHeld => ?_)
        clear hK K
        try simp only [Act.put, List.setIfInBounds_toArray, List.set_cons_zero, List.set_cons_succ]
        refine wpAnyH_ready (rs := [24]) (by kernel_rfl) (by simp) ?_
        refine AllReadyH.cons (o := { dst := some 39, op := Op.call { callee := Callee.builtin Builtin.append, args := #[Operand.tmp 21, Operand.tmp 38], argTypes := #[22, 22] }, type := 22, pos := "l9_tables.go:48", after := #[{ on := 6, ground := Ground.data }, { on := 23, ground := Ground.data }], guard := none }) rfl (fun K hK => ?_) AllReadyH.nil
        refine ur_draw (by rfl) _ _ 22 43 (by rfl) Try.info43 Try.underlying22 rfl (by decide) 0 _ (.slice pc nc qc) nc C.vals [.string x, .string nm, .int .i64 k, .int .i64 vars, .slice fa fn fc] _ _ (by rfl) (HC43.out _ (by repeat first | with_reducible exact HKX.out | with_reducible refine Kept.al ?_ | with_reducible refine Kept.dr ?_)) (by rfl) (by first | with_reducible exact heap_new _ _ | with_reducible exact heap_new_dr _ _) (Nat.zero_le _) (by rfl) (by simp [Value.oneCell']) H63.out.1 H63.out.2 ?_
        intro g8 c8 w5 hO8 hG8 hat8
        obtain ⟨hb8, q8⟩ := HCA.out _ w5 g8 c8 (by repeat first | with_reducible exact HKX.out | with_reducible refine Kept.al ?_ | with_reducible refine Kept.dr ?_) hG8 hO8 hat8
        obtain ⟨S8, S9⟩ := HS5.out _ w5 (.slice (some ⟨g8, 0, none⟩) (nc + 1) c8) (by repeat first | with_reducible exact HKX.out | with_reducible refine Kept.al ?_ | with_reducible refine Kept.dr ?_) hG8
        have r0 := q8.cel 0 _ rfl
        have f0 := q8.live 0
        have HB8 := hide hb8
        clear hO8 hG8 hat8 hb8 q8
        refine hK.out _ _ S8 (fun hHeld => ?_)
        clear hK K
        try simp only [Act.put, List.setIfInBounds_toArray, List.set_cons_zero, List.set_cons_succ]
        refine' wpAnyH_take (i := 25) (oi := { dst := some 40, op := Op.nilCheck (Operand.tmp 16), type := 0, pos := "l9_tables.go:48", after := #[{ on := 1, ground := Ground.data }, { on := 0, ground := Ground.phase }, { on := 1, ground := Ground.phase }, { on := 2, ground := Ground.phase }, { on := 3, ground := Ground.phase }, { on := 4, ground := Ground.phase }, { on := 5, ground := Ground.phase }, { on := 6, ground := Ground.phase }, { on := 7, ground := Ground.phase }, { on := 8, ground := Ground.phase }, { on := 9, ground := Ground.phase }, { on := 10, ground := Ground.phase }, { on := 11, ground := Ground.phase }, { on := 12, ground := Ground.phase }, { on := 13, ground := Ground.phase }, { on := 14, ground := Ground.phase }, { on := 15, ground := Ground.phase }, { on := 16, ground := Ground.phase }, { on := 17, ground := Ground.phase }, { on := 18, ground := Ground.phase }, { on := 19, ground := Ground.phase }, { on := 20, ground := Ground.phase }, { on := 21, ground := Ground.phase }, { on := 22, ground := Ground.phase }, { on := 23, ground := Ground.phase }, { on := 24, ground := Ground.phase }], guard := none }) (v := _) rfl (by kernel_rfl) (by kernel_rfl) (by kernel_rfl) (fun _ _ _ h => h) (Or.inl ⟨by rfl, ?hy25b⟩) (by assumption) ?rest25b
        case hy25b => (intro w hSw; (try dsimp only at hSw); go_simp; (try with_reducible rfl))
        try simp only [Act.put, List.setIfInBounds_toArray, List.set_cons_zero, List.set_cons_succ]
        refine' wpAnyH_take (i := 26) (oi := { dst := some 41, op := Op.fieldAddr 28 (Operand.tmp 40) 0, type := 0, pos := "l9_tables.go:48", after := #[{ on := 25, ground := Ground.data }, { on := 0, ground := Ground.phase }, { on := 1, ground := Ground.phase }, { on := 2, ground := Ground.phase }, { on := 3, ground := Ground.phase }, { on := 4, ground := Ground.phase }, { on := 5, ground := Ground.phase }, { on := 6, ground := Ground.phase }, { on := 7, ground := Ground.phase }, { on := 8, ground := Ground.phase }, { on := 9, ground := Ground.phase }, { on := 10, ground := Ground.phase }, { on := 11, ground := Ground.phase }, { on := 12, ground := Ground.phase }, { on := 13, ground := Ground.phase }, { on := 14, ground := Ground.phase }, { on := 15, ground := Ground.phase }, { on := 16, ground := Ground.phase }, { on := 17, ground := Ground.phase }, { on := 18, ground := Ground.phase }, { on := 19, ground := Ground.phase }, { on := 20, ground := Ground.phase }, { on := 21, ground := Ground.phase }, { on := 22, ground := Ground.phase }, { on := 23, ground := Ground.phase }, { on := 24, ground := Ground.phase }], guard := none }) (v := _) rfl (by kernel_rfl) (by kernel_rfl) (by kernel_rfl) (fun _ _ _ h => h) (Or.inl ⟨by rfl, ?hy26b⟩) (by assumption) ?rest26b
        case hy26b => (intro w hSw; (try dsimp only at hSw); go_simp; (try with_reducible rfl))
        try simp only [Act.put, List.setIfInBounds_toArray, List.set_cons_zero, List.set_cons_succ]
        refine wpAnyH_ready (rs := [27]) (by kernel_rfl) (by simp) ?_
        refine AllReadyH.cons (o := { dst := none, op := Op.store 22 (Operand.tmp 41) (Operand.tmp 39), type := 0, pos := "l9_tables.go:48", after := #[{ on := 26, ground := Ground.data }, { on := 24, ground := Ground.data }, { on := 24, ground := Ground.chain }, { on := 0, ground := Ground.phase }, { on := 1, ground := Ground.phase }, { on := 2, ground := Ground.phase }, { on := 3, ground := Ground.phase }, { on := 4, ground := Ground.phase }, { on := 5, ground := Ground.phase }, { on := 6, ground := Ground.phase }, { on := 7, ground := Ground.phase }, { on := 8, ground := Ground.phase }, { on := 9, ground := Ground.phase }, { on := 10, ground := Ground.phase }, { on := 11, ground := Ground.phase }, { on := 12, ground := Ground.phase }, { on := 13, ground := Ground.phase }, { on := 14, ground := Ground.phase }, { on := 15, ground := Ground.phase }, { on := 16, ground := Ground.phase }, { on := 17, ground := Ground.phase }, { on := 18, ground := Ground.phase }, { on := 19, ground := Ground.phase }, { on := 20, ground := Ground.phase }, { on := 21, ground := Ground.phase }, { on := 22, ground := Ground.phase }, { on := 23, ground := Ground.phase }, { on := 24, ground := Ground.phase }], guard := none }) rfl (fun K hK => ?_) AllReadyH.nil
        go_simp
        refine hK.out _ _ S9 (fun hHeld => ?_)
        clear hK K
        try simp only [Act.put, List.setIfInBounds_toArray, List.set_cons_zero, List.set_cons_succ]
        refine wpAnyH_done (by kernel_rfl) ?_ _
        go_wp2_with fail
        go_meet
        case rel => exact ⟨_, _, HB8.out _ rfl⟩
    case rest =>
      obtain ⟨g, cap, hy⟩ := hcut
      rename World => wy
      obtain ⟨by1, by2, by3, by4⟩ := hy.out
      have hdl := HH.out.dl
      have hvD : (D.app (.v (.string nm) (.v (.int .i64 vars) (.v (.slice na k ncap) .nil)))).vals = D.vals ++ [.string nm, .int .i64 vars, .slice na k ncap] := by rw [Fo.app_vals]; rfl
      have hlD : D.vals.length = nd * 3 := by rw [Fo.vals_length, hdl]
      have d2 : wy.cell? ⟨gd, nd * 3 + 2, none⟩ = some (.slice na k ncap) := (by2.perm (perm_b _ _ _)).at_ _ _ (by rw [hvD, List.getElem?_append_right (by omega), hlD, Nat.add_sub_cancel_left]; rfl)
      have HN9 : Hid (∀ W, Kept (fun _ => True) wy W → W.ownsRow 0 9 1 (.slice na k ncap) k N.vals) := fun W kW => ownsRow_kept ((by2.perm (rot3 _ _ _)).ok _ List.mem_cons_self).1 kW (fun _ _ => trivial)
      have HSC : Hid ((C.app (con5 x nm k vars fa fn fc Fk)).sim (Cx.app (con5 x nm k vars none fn 0 Fx))) := HH.out.sc.app ⟨rfl, rfl, rfl, rfl, rfl, hsf, trivial⟩
      have HCB : Hid (∀ w5 g' cap', (wy.alloc (.cells #[.string x] 9)).grownBy w5 (Value.slice na k ncap).ownBlock → w5.ownsRow 0 9 1 (.slice (some ⟨g', 0, none⟩) (k + 1) cap') (k + 1) (N.vals ++ [.string x]) → ((Value.slice na k ncap).ownBlock = some g' ∨ g' = (wy.alloc (.cells #[.string x] 9)).heap.size) → _) := fun w5 g' cap' hG hO hat => con_b by1 by2 HH.out.pm (fun c hc => Nat.lt_of_lt_of_le (HH.out.pl c hc) by4) by3 HSC.out HH.out.sd HH.out.dl (Kept.alloc _ _ _) hG hO hat
      clear by1 by2 by3 by4 hy hdl hvD hlD s0 s1 s2 s3 s4 s5 s6 u0 u1
      go_wp2_with (at_builtin; refine ur_stepL rfl _ _ 56 9 rfl Try.info9 Try.underlying56 rfl (by decide) 0 (wy.alloc (.cells #[.string x] 9)) (.slice na k ncap) k N.vals [.string x] _ _ rfl rfl (Nat.zero_le _) (HN9.out _ (Kept.alloc _ _ _)) (heap_new _ _) rfl (by simp [Value.oneCell']) h63.out.1 h63.out.2 ?_; intro g7 c7 w3 hO7 hG7 hat7; obtain ⟨ha7, r2, f2⟩ := HCB.out w3 g7 c7 hG7 hO7 hat7; have HA7 := hide ha7; clear hO7 hG7 hat7 ha7)
      refine bodyPost_end (results_none rfl _ _ _) rfl ⟨_, _, _, _, _, rfl, HA7⟩

end Go.Proofs.Ytkjbkmhmghmodaa
