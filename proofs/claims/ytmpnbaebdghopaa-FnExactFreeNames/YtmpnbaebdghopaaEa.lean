import Derived.Test.YtmpnbaebdghopaaDz
namespace Go.Proofs.Ytmpnbaebdghopaa
open Go.RowKit Go.Joins

set_option maxHeartbeats 4000000 in
set_option maxRecDepth 100000 in
/-- A variable that stands free, for the first time. -/
theorem lk_new (B0 fb hb kb : Nat) (f : ByteArray → Int) (M : List ByteArray) (n : Nat) (ob : Option Nat) (db do_ : Nat) (nm : ByteArray) (W : World) (hsz : nm.size ≤ 1048576) (hmem : ¬ nm ∈ M) (hpos : f nm = 0) (hM : M.length ≤ 16777216) (hn : n ≤ 1099511627776)
    (c0 : W.cell? ⟨db, do_, none⟩ = some (.int .i64 1)) (c1 : W.cell? ⟨db, do_ + 1, none⟩ = some (.string nm)) (hdb : Off fb hb kb ob db) (hF : FS B0 fb hb kb f M n ob W) :
    Calls Try.prog 43 #[.pointer (some ⟨fb, 0, none⟩), .pointer (some ⟨db, do_, none⟩)] W fun e W' => (∃ v, e = .returned v) ∧ FT B0 fb hb kb f (M ++ [nm]) (n + 1) ob W W' := by
  have k1 : Below W.heap.size W W.drew := (Below.refl _ _).drew
  have k2 : Below W.heap.size W (W.alloc (.cells #[] 105)).drew := (below_alloc1 _ _).drew
  have hms : nm.size ≤ maxLen := by unfold maxLen; omega
  obtain ⟨z, hz⟩ : ∃ z, z = f nm := ⟨_, rfl⟩
  rw [← hz] at hpos
  subst hpos
  have HX : Hid (∀ V, Below W.heap.size W V → V.cell? ⟨fb, 1, none⟩ = some (.map (some kb)) ∧ V.cell? ⟨db, do_ + 1, none⟩ = some (.string nm) ∧ (Instr.lookup 76 (.map (some kb)) (.string nm) true).run Try.prog V = .ok (.tuple #[.agg #[], .bool false]) V) := fun V k => ⟨(k.cell (p := ⟨fb, 1, none⟩) hF.fb_lt).trans hF.c1, (k.cell (p := ⟨db, do_ + 1, none⟩) (block_lt_of_cell c1)).trans c1, (hF.below k).km.look nm hms false (by simp [hmem])⟩
  have HY : Hid (∀ V, Below W.heap.size W V → V.cell? ⟨fb, 0, none⟩ = some (.map (some hb)) ∧ V.cell? ⟨db, do_ + 1, none⟩ = some (.string nm) ∧ (Instr.lookup 75 (.map (some hb)) (.string nm) false).run Try.prog V = .ok (.int .i64 0) V) := fun V k => ⟨(k.cell (p := ⟨fb, 0, none⟩) hF.fb_lt).trans hF.c0, (k.cell (p := ⟨db, do_ + 1, none⟩) (block_lt_of_cell c1)).trans c1, by rw [hz]; exact (hF.below k).hm.look nm hms⟩
  obtain ⟨a1, a2, a3⟩ := HX.out W.drew k1
  obtain ⟨b1, b2, b3⟩ := HX.out _ k2
  -- the name is put into the map
  have HU : Hid (∃ w4, (Instr.mapUpdate 76 (.map (some kb)) (.string nm) (.agg #[])).run Try.prog (W.alloc (.cells #[] 105)).drew.drew.drew = .ok () w4 ∧ NM w4 kb (n + 1) (nm :: M) ∧ Kept (fun b => b ≠ kb) W w4) := by
    obtain ⟨D, hown, hat⟩ := (hF.below k2.drew.drew).km
    obtain ⟨w4, hrun, r1, r2⟩ := hown.update (Maps.string_keyed Try.underlying9) und76 (by unfold maxLen; omega) (WideMaps.keyOf_string_mk Try.underlying9 hms) (val := .agg #[]) (d := .held unitV) (ps := []) rfl
    exact ⟨w4, hrun, NM.put hown.isMap hat r1, (kt k2.drew.drew).trans (Kept.grown r2 (fun c hc hx => hx (Option.some.inj hc).symm))⟩
  have HK2 := hide k2
  have HF := hide hF
  have HD := hide hdb
  have HC1 := hide c1
  clear hF hmem k1 k2 c1 hz hdb
  go_enter Try.func43, Try.ntmps43
  go_upto_region 2 with fail
  go_region
  all_goals
    clear a1 a2 a3 b1 b2 b3
    obtain ⟨d1, d2, d3⟩ := HY.out _ HK2.out
    obtain ⟨e1, e2, e3⟩ := HY.out _ HK2.out.drew
    go_upto_region 3 with fail
    go_region
    all_goals
      clear d1 d2 d3 e1 e2 e3
      obtain ⟨d1, d2, -⟩ := HX.out _ HK2.out.drew
      obtain ⟨e1, e2, -⟩ := HX.out _ HK2.out.drew.drew
      obtain ⟨w4, hup, hm4, hk4⟩ := HU.out
      have HM4 := hide hm4
      have HK4 := hide hk4
      clear hm4 hk4 HU
      go_upto_region 4 with fail
      go_region
      all_goals
        have hF := HF.out
        obtain ⟨fa, fcp, f2, fo, fe⟩ := hF.c2
        have k5 : Kept (fun _ => True) w4 w4.drew := Kept.drew _ _
        have z4 := HK4.out.size
        obtain ⟨n1, n2, n3, n4, n5, n6⟩ := hF.ne
        obtain ⟨o1, o2, o3, o4⟩ := HD.out
        have hdl : db < W.heap.size := block_lt_of_cell c0
        have hfl := hF.fb_lt
        obtain ⟨l, hl⟩ : ∃ l, l = M.length := ⟨_, rfl⟩
        have p4 : w4.cell? ⟨fb, 2, none⟩ = some (.slice fa l fcp) := by rw [hl]; exact (HK4.out.cell (p := ⟨fb, 2, none⟩) hfl n2).trans f2
        have q4 : w4.cell? ⟨db, do_ + 1, none⟩ = some (.string nm) := (HK4.out.cell (p := ⟨db, do_ + 1, none⟩) hdl o3).trans HC1.out
        have s4 : w4.frozen? ⟨fb, 2, none⟩ = false := (HK4.out.frozen (p := ⟨fb, 2, none⟩) hfl n2).trans hF.fz
        have HOW : Hid (∀ V, Kept (fun _ => True) w4 V → V.ownsRow B0 9 1 (.slice fa l fcp) l (M.map Value.string)) := fun V k => by
          rw [hl]
          exact ownsRow_kept (ownsRow_kept fo HK4.out (fun c hc e => n6 (fe.symm.trans (by rw [hc, e])))) k (fun _ _ => trivial)
        have HP : Hid (∀ V, Kept (fun b => ob ≠ some b) w4 V → V.cell? ⟨fb, 2, none⟩ = some (.slice fa l fcp) ∧ V.cell? ⟨db, do_ + 1, none⟩ = some (.string nm) ∧ V.frozen? ⟨fb, 2, none⟩ = false) := fun V k => ⟨(k.cell (p := ⟨fb, 2, none⟩) (by show fb < _; omega) n4).trans p4, (k.cell (p := ⟨db, do_ + 1, none⟩) (by show db < _; omega) o4).trans q4, (k.frozen (p := ⟨fb, 2, none⟩) (by show fb < _; omega) n4).trans s4⟩
        have HCB : Hid (∀ V, Calls Try.prog 73 #[.string nm] V fun e w'' => ∃ v, e = .returned v ∧ (v = .string nm ∧ Below V.heap.size V w'')) := fun V => (i_clone nm V hsz).mono (by rintro e w'' ⟨rfl, hb⟩; exact ⟨_, rfl, rfl, hb⟩)
        have HLN : Hid (l + 1 ≤ maxLen ∧ (l + 1) * 16 ≤ 140737488355328) := by unfold Hid maxLen; omega
        have HB0 : Hid (B0 ≤ w4.heap.size) := by have := hF.lo.1; show _ ≤ _; omega
        have HOB : Hid ((Value.slice fa l fcp).ownBlock = ob) := by unfold Hid; rw [hl]; exact fe
        have FIN : Hid (∀ w5 g7 cp w7, Below w4.heap.size w4 w5 → w7.ownsRow B0 9 1 (.slice (some ⟨g7, 0, none⟩) (l + 1) cp) (l + 1) (M.map Value.string ++ [.string nm]) → w5.grownBy w7 (Value.slice fa l fcp).ownBlock → ((Value.slice fa l fcp).ownBlock = some g7 ∨ g7 = w5.heap.size) → FT B0 fb hb kb f (M ++ [nm]) (n + 1) ob W (w7.setCell ⟨fb, 2, none⟩ (.slice (some ⟨g7, 0, none⟩) (l + 1) cp))) := fun w5 g7 cp w7 hb5 hO hG hat => by
          rw [HOB.out] at hG hat
          rw [hl] at hO ⊢
          exact HF.out.add HK4.out HM4.out hb5 hO hG (by rcases hat with e | e; exact .inl e; exact .inr (by have := hb5.size; omega))
        obtain ⟨u1, u2, u3⟩ := HP.out w4.drew (k5.mono (fun _ _ _ => trivial))
        clear hF f2 fo fe n1 n2 n3 n4 n5 n6 o1 o2 o3 o4 hl p4 q4 s4 d1 d2 e1 e2 hup HX HY k5
        go_upto_region 5 with fail
        go_region_law (first
          | (refine step_call (by rfl) 73 #[.string nm] (by simp [go_sem]) _ (HCB.out _) ?_; rintro v5 w5 ⟨rfl, h5⟩; have HB5 : Hid (Below w4.heap.size w4 w5) := (Below.refl _ _).drew.trans h5; have HK5 : Hid (Kept (fun _ => True) w4 w5) := kt HB5.out; obtain ⟨x1, x2, x3⟩ := HP.out w5 (kt HB5.out); obtain ⟨y1, y2, y3⟩ := HP.out (w5.alloc (.cells #[.string nm] 9)) ((kt HB5.out).trans (Kept.alloc _ _ _)); clear h5)
          | (refine ur_draw (by rfl) _ _ 25 9 (by rfl) Try.info9 Try.underlying25 rfl (by decide) B0 _ (.slice fa l fcp) l (M.map Value.string) [.string nm] _ 1 (by rfl) (HOW.out _ (HK5.out.trans (Kept.alloc _ _ _))) (by rfl) (heap_new _ _) (Nat.le_trans HB0.out (Nat.le_trans HB5.out.size (by simp))) rfl (by simp [Value.oneCell']) HLN.out.1 HLN.out.2 ?_; intro g7 cp w7 hO7 hG7 hat7; have HE7 := hide (FIN.out _ _ _ _ (HB5.out.trans ((below_alloc1 _ _).mono HB5.out.size)) hO7 hG7 hat7); obtain ⟨t1, t2, t3⟩ := HP.out w7 (((kt HB5.out).trans (Kept.alloc _ _ _)).trans (Kept.grown hG7 (fun c hc hx => hx (by rw [← HOB.out]; exact hc)))); clear hO7 hG7 hat7)
          | fail)
        all_goals
          go_end0
          exact ⟨⟨_, rfl⟩, HE7.out⟩

end Go.Proofs.Ytmpnbaebdghopaa
