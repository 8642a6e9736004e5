import Derived.Test.YtmpnbaebdghopaaDy
import Derived.Test.YtmpnbaebdghopaaShelf
namespace Go.Proofs.Ytmpnbaebdghopaa
open Go.RowKit Go.Joins

set_option maxRecDepth 100000 in
theorem i_clone (x : ByteArray) (w : World) (hx : x.size ≤ 1048576) : Calls Try.prog 73 #[.string x] w fun e w' => e = .returned (.string x) ∧ Below w.heap.size w w' := by
  have := Try.stringslite_Clone x w (by omega)
  go_enter Try.func73, Try.ntmps73
  go_wp2_with fail
  refine this.mono ?_
  rintro e w2 ⟨rfl, b2⟩
  go_wp2_with fail
  go_ret
  exact ⟨rfl, b2⟩

theorem NM.perm {w : World} {K n : Nat} {L L' : List ByteArray} (h : NM w K n L) (he : ∀ t, t ∈ L ↔ t ∈ L') : NM w K n L' := by
  obtain ⟨D, h1, h2⟩ := h
  exact ⟨D, h1, fun t => ⟨(h2 t).1.trans (he t), (h2 t).2⟩⟩

/-- One name more is found. -/
theorem FS.add {B0 fb hb kb : Nat} {f : ByteArray → Int} {M : List ByteArray} {n : Nat} {ob : Option Nat} {W w4 w5 w7 : World} {nm : ByteArray} {g7 cq : Nat} (h : FS B0 fb hb kb f M n ob W) (k4 : Kept (fun b => b ≠ kb) W w4) (hm : NM w4 kb (n + 1) (nm :: M)) (k5 : Below w4.heap.size w4 w5)
    (hO : w7.ownsRow B0 9 1 (.slice (some ⟨g7, 0, none⟩) (M.length + 1) cq) (M.length + 1) (M.map Value.string ++ [.string nm])) (hG : w5.grownBy w7 ob) (hat : ob = some g7 ∨ w4.heap.size ≤ g7) :
    FT B0 fb hb kb f (M ++ [nm]) (n + 1) ob W (w7.setCell ⟨fb, 2, none⟩ (.slice (some ⟨g7, 0, none⟩) (M.length + 1) cq)) := by
  obtain ⟨a, cp, e1, e2, e3⟩ := h.c2
  obtain ⟨n1, n2, n3, n4, n5, n6⟩ := h.ne
  have hl := h.fb_lt
  have hlh := h.hm.lt
  have hlk := h.km.lt
  have z4 := k4.size
  have z5 := k5.size
  have kg : Kept (fun b => ob ≠ some b) w5 w7 := Kept.grown hG (fun c hc hx => hx hc)
  have ka : Kept (fun b => b ≠ kb ∧ ob ≠ some b) W w7 := ((k4.mono (fun b _ hb' => hb'.1)).trans (kt k5)).trans (kg.mono (fun b _ hb' => hb'.2))
  have ks : Kept (fun b => b ≠ fb) w7 (w7.setCell ⟨fb, 2, none⟩ (.slice (some ⟨g7, 0, none⟩) (M.length + 1) cq)) := Kept.setCell _ _ _ _ (fun hx => hx rfl)
  have hg7 : fb ≠ g7 ∧ hb ≠ g7 ∧ kb ≠ g7 := by
    rcases hat with e | e
    · rw [e] at n4 n5 n6
      exact ⟨fun e => n4 (by rw [e]), fun e => n5 (by rw [e]), fun e => n6 (by rw [e])⟩
    · exact ⟨by omega, by omega, by omega⟩
  have z7 := ka.size
  have cf : ∀ j, w7.cell? ⟨fb, j, none⟩ = W.cell? ⟨fb, j, none⟩ := fun j => ka.cell (p := ⟨fb, j, none⟩) hl ⟨n2, n4⟩
  have hk7 : NM w7 kb (n + 1) (M ++ [nm]) := by
    have h1 : NM w5 kb (n + 1) (nm :: M) := hm.below k5 (by omega)
    exact (h1.kept kg n6).perm (fun t => by simp [or_comm])
  refine ⟨⟨n + 1, some g7, Nat.le_refl _, ?_, ?_⟩, (ka.mono (fun b _ hb' => ⟨hb'.2.2.1, hb'.2.2.2⟩)).trans (ks.mono (fun b _ hb' => hb'.1))⟩
  · rcases hat with e | e
    · exact .inl e.symm
    · exact .inr ⟨g7, rfl, by omega⟩
  · refine ⟨?_, ?_, ⟨some ⟨g7, 0, none⟩, cq, ?_, ?_, rfl⟩, ?_, ?_, ?_, ⟨n1, n2, n3, fun e => hg7.1 (Option.some.inj e).symm, fun e => hg7.2.1 (Option.some.inj e).symm, fun e => hg7.2.2 (Option.some.inj e).symm⟩, h.lo⟩
    · rw [World.cell?_setCell_other _ _ _ _ (by simp)]
      exact (cf 0).trans h.c0
    · rw [World.cell?_setCell_other _ _ _ _ (by simp)]
      exact (cf 1).trans h.c1
    · rw [List.length_append]
      exact World.cell?_setCell_same _ _ _ ((cf 2).trans e1)
    · have e : (M ++ [nm]).length = M.length + 1 := by simp
      rw [e, List.map_append]
      exact ownsRow_kept hO ks (fun c hc => by have e9 : g7 = c := Option.some.inj hc; rw [← e9]; exact fun e => hg7.1 e.symm)
    · rw [World.frozen?_setCell]
      exact (ka.frozen (p := ⟨fb, 2, none⟩) hl ⟨n2, n4⟩).trans h.fz
    · exact ((h.hm.kept ka ⟨n3, n5⟩).kept ks (fun e => n1 e.symm)).mono (Nat.le_succ _)
    · exact hk7.kept ks (fun e => n2 e.symm)

set_option maxHeartbeats 4000000 in
set_option maxRecDepth 100000 in
/-- A variable that is known already. -/
theorem lk_known (B0 fb hb kb : Nat) (f : ByteArray → Int) (M : List ByteArray) (n : Nat) (ob : Option Nat) (db do_ : Nat) (nm : ByteArray) (W : World) (hsz : nm.size ≤ 1048576) (hmem : nm ∈ M)
    (c0 : W.cell? ⟨db, do_, none⟩ = some (.int .i64 1)) (c1 : W.cell? ⟨db, do_ + 1, none⟩ = some (.string nm)) (hF : FS B0 fb hb kb f M n ob W) :
    Calls Try.prog 43 #[.pointer (some ⟨fb, 0, none⟩), .pointer (some ⟨db, do_, none⟩)] W fun e W' => (∃ v, e = .returned v) ∧ FT B0 fb hb kb f M n ob W W' := by
  have k1 : Below W.heap.size W W.drew := (Below.refl _ _).drew
  have k2 : Below W.heap.size W (W.alloc (.cells #[] 105)).drew := (below_alloc1 _ _).drew
  have hms : nm.size ≤ maxLen := by unfold maxLen; omega
  have HX : Hid (∀ V, Below W.heap.size W V → V.cell? ⟨fb, 1, none⟩ = some (.map (some kb)) ∧ V.cell? ⟨db, do_ + 1, none⟩ = some (.string nm) ∧ (Instr.lookup 76 (.map (some kb)) (.string nm) true).run Try.prog V = .ok (.tuple #[.agg #[], .bool true]) V) := fun V k => ⟨(k.cell (p := ⟨fb, 1, none⟩) hF.fb_lt).trans hF.c1, (k.cell (p := ⟨db, do_ + 1, none⟩) (block_lt_of_cell c1)).trans c1, (hF.below k).km.look nm hms true (by simp [hmem])⟩
  obtain ⟨a1, a2, a3⟩ := HX.out W.drew k1
  obtain ⟨b1, b2, b3⟩ := HX.out _ k2
  have HE : Hid (FT B0 fb hb kb f M n ob W (W.alloc (.cells #[] 105)).drew.drew) := ⟨⟨n, ob, Nat.le_refl _, .inl rfl, hF.below k2.drew⟩, kt k2.drew⟩
  clear hF hmem hms k1 k2 c1 HX
  go_enter Try.func43, Try.ntmps43
  go_upto_region 2 with fail
  go_region
  all_goals
    go_upto_region 3 with fail
    go_region
    all_goals
      go_wp2_with fail
      refine bodyPost_ret (results_none rfl _ _ _) rfl ?_
      exact ⟨⟨_, rfl⟩, HE.out⟩

set_option maxHeartbeats 4000000 in
set_option maxRecDepth 100000 in
/-- A variable that is bound around. -/
theorem lk_bound (B0 fb hb kb : Nat) (f : ByteArray → Int) (M : List ByteArray) (n : Nat) (ob : Option Nat) (db do_ : Nat) (nm : ByteArray) (W : World) (hsz : nm.size ≤ 1048576) (hmem : ¬ nm ∈ M) (hpos : 0 < f nm)
    (c0 : W.cell? ⟨db, do_, none⟩ = some (.int .i64 1)) (c1 : W.cell? ⟨db, do_ + 1, none⟩ = some (.string nm)) (hF : FS B0 fb hb kb f M n ob W) :
    Calls Try.prog 43 #[.pointer (some ⟨fb, 0, none⟩), .pointer (some ⟨db, do_, none⟩)] W fun e W' => (∃ v, e = .returned v) ∧ FT B0 fb hb kb f M n ob W W' := by
  have k1 : Below W.heap.size W W.drew := (Below.refl _ _).drew
  have k2 : Below W.heap.size W (W.alloc (.cells #[] 105)).drew := (below_alloc1 _ _).drew
  have hms : nm.size ≤ maxLen := by unfold maxLen; omega
  obtain ⟨z, hz⟩ : ∃ z, z = f nm := ⟨_, rfl⟩
  rw [← hz] at hpos
  have HX : Hid (∀ V, Below W.heap.size W V → V.cell? ⟨fb, 1, none⟩ = some (.map (some kb)) ∧ V.cell? ⟨db, do_ + 1, none⟩ = some (.string nm) ∧ (Instr.lookup 76 (.map (some kb)) (.string nm) true).run Try.prog V = .ok (.tuple #[.agg #[], .bool false]) V) := fun V k => ⟨(k.cell (p := ⟨fb, 1, none⟩) hF.fb_lt).trans hF.c1, (k.cell (p := ⟨db, do_ + 1, none⟩) (block_lt_of_cell c1)).trans c1, (hF.below k).km.look nm hms false (by simp [hmem])⟩
  have HY : Hid (∀ V, Below W.heap.size W V → V.cell? ⟨fb, 0, none⟩ = some (.map (some hb)) ∧ V.cell? ⟨db, do_ + 1, none⟩ = some (.string nm) ∧ (Instr.lookup 75 (.map (some hb)) (.string nm) false).run Try.prog V = .ok (.int .i64 z) V) := fun V k => ⟨(k.cell (p := ⟨fb, 0, none⟩) hF.fb_lt).trans hF.c0, (k.cell (p := ⟨db, do_ + 1, none⟩) (block_lt_of_cell c1)).trans c1, by rw [hz]; exact (hF.below k).hm.look nm hms⟩
  obtain ⟨a1, a2, a3⟩ := HX.out W.drew k1
  obtain ⟨b1, b2, b3⟩ := HX.out _ k2
  have HE : Hid (FT B0 fb hb kb f M n ob W (W.alloc (.cells #[] 105)).drew.drew) := ⟨⟨n, ob, Nat.le_refl _, .inl rfl, hF.below k2.drew⟩, kt k2.drew⟩
  have HK2 := hide k2
  have hz1 : (decide (0 < z)) = true := by rw [decide_eq_true_eq]; exact hpos
  clear hF hmem hms k1 k2 c1 HX hz
  go_enter Try.func43, Try.ntmps43
  go_upto_region 2 with fail
  go_region
  all_goals
    clear a1 a2 a3 b1 b2 b3
    obtain ⟨d1, d2, d3⟩ := HY.out _ HK2.out
    obtain ⟨e1, e2, e3⟩ := HY.out _ HK2.out.drew
    go_upto_region 3 with fail
    go_region
    all_goals
      go_wp2_with fail
      refine bodyPost_ret (results_none rfl _ _ _) rfl ?_
      exact ⟨⟨_, rfl⟩, HE.out⟩

end Go.Proofs.Ytmpnbaebdghopaa
