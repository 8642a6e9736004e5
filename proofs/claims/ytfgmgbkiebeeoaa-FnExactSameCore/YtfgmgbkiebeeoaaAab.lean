import Derived.Test.YtfgmgbkiebeeoaaRd
namespace Go.Proofs.Ytfgmgbkiebeeoaa
open Go.RowKit Go.Joins

set_option maxHeartbeats 60000000 in
set_option maxRecDepth 100000 in
theorem alone_alt_b {w : World} {G nb n nc a b db dd eb ee : Nat} {i1 i2 j1 j2 : Int} {C D kc0 ac0 tk ta : Nat} (h : AL w G nb n nc a b db dd eb ee i1 i2 j1 j2 C D kc0 ac0 tk ta) (ha : a < n) (hb : b < n) (hn : n ≤ 10000000) {a' b' : Nat} (ha' : a = C + a') (hb' : b = C + b') (hD : a' < D) (hD' : b' < D) {xb xo yb yo : Nat} (t1 : w.cell? ⟨ta, a', none⟩ = some (.pointer (some ⟨xb, xo, none⟩))) (t2 : w.cell? ⟨ta, b', none⟩ = some (.pointer (some ⟨yb, yo, none⟩))) {k : Int} {nm : ByteArray} {mn : Bool} {la la' na na' ka ka' aa aa' : Option Addr} {ln ln' lc lc' nn nn' nc' nc'' kn kc kc' an ac ac' : Nat} {lk lk' nk nk' : Fo} {n0 : Nat} (h3 : Fit E lk (rep (E 0) ln)) (h3' : Fit E lk' (rep (E 0) ln')) (h4 : Fit E nk (rep (E 1) nn)) (h4' : Fit E nk' (rep (E 1) nn')) (hn0 : n0 ≤ w.heap.size) (hs3 : Fo.Sub w (fun c => c < n0) la ln lc lk) (ht3 : Fo.Sub w (fun c => c < n0) la' ln' lc' lk') (hs4 : Fo.Sub w (fun c => c < n0) na nn nc' nk) (ht4 : Fo.Sub w (fun c => c < n0) na' nn' nc'' nk') (cF : Cel w [.int .i64 k, .string nm, .bool mn, .slice la ln lc, .slice na nn nc', .slice ka kn kc, .slice aa an ac] db dd) (cH : Cel w [.int .i64 k, .string nm, .bool mn, .slice la' ln' lc', .slice na' nn' nc'', .slice ka' kn kc', .slice aa' an ac'] eb ee) (Q : Prop) (Hd : Prop) (hHd : ∀ V, Kept (fun _ => True) w V → Calls Try.prog 51 #[.pointer (some ⟨xb, xo, none⟩), .pointer (some ⟨yb, yo, none⟩)] V (SmP Hd V)) (hH : Hd) (hL : Hid (ln = ln' ∧ lk'.sim lk)) (HY : Hid (Q ↔ (nn = nn' ∧ nk'.sim nk))) :
    Calls Try.prog 30 #[.pointer (some ⟨G, 0, none⟩), .int .i64 a, .int .i64 b] w (SmP Q w) := by
  have hai : (a : Int) < n := by omega
  have hbi : (b : Int) < n := by omega
  have hCi : (C : Int) ≤ a := by omega
  have hw1 : IntKind.i64.wrap ((a : Int) - C) = a' := by rw [show (a : Int) - C = a' by omega]; rw [IntKind.wrap_i64]; omega
  have hw2 : IntKind.i64.wrap ((b : Int) - C) = b' := by rw [show (b : Int) - C = b' by omega]; rw [IntKind.wrap_i64]; omega
  have hD1 : (a' : Int) < D := by omega
  have hD2 : (b' : Int) < D := by omega
  have HHD := hide hHd
  have HST : Hid (∀ V, Kept (fun _ => True) w V → V.cell? ⟨G, 6, none⟩ = some (.slice (some ⟨ta, 0, none⟩) D ac0) ∧ V.cell? ⟨ta, a', none⟩ = some (.pointer (some ⟨xb, xo, none⟩)) ∧ V.cell? ⟨ta, b', none⟩ = some (.pointer (some ⟨yb, yo, none⟩))) := fun V k => ⟨(h.below k).c6, (k.cell (block_lt_of_cell t1) trivial).trans t1, (k.cell (block_lt_of_cell t2) trivial).trans t2⟩
  have HS : Hid (∀ V, Kept (fun _ => True) w V → V.cell? ⟨G, 8, none⟩ = some (.slice (some ⟨nb, 0, none⟩) n nc) ∧ V.cell? ⟨nb, a * 3, none⟩ = some (.pointer (some ⟨db, dd, none⟩)) ∧ V.cell? ⟨nb, a * 3 + 1, none⟩ = some (.int .i64 i1) ∧ V.cell? ⟨nb, a * 3 + 2, none⟩ = some (.int .i64 i2) ∧ V.cell? ⟨nb, b * 3, none⟩ = some (.pointer (some ⟨eb, ee, none⟩)) ∧ V.cell? ⟨nb, b * 3 + 1, none⟩ = some (.int .i64 j1) ∧ V.cell? ⟨nb, b * 3 + 2, none⟩ = some (.int .i64 j2)) := fun V k => by
    have q := h.below k
    exact ⟨q.n8, q.a0, q.a1, q.a2, q.b0, q.b1, q.b2⟩
  have k0' := HS.out w.drew (Kept.drew _ _)
  have hdl : db < w.heap.size := block_lt_of_cell (cF 0 _ rfl)
  have hel : eb < w.heap.size := block_lt_of_cell (cH 0 _ rfl)
  have HCF : Hid (∀ V, Kept (fun _ => True) w V → Cel V [.int .i64 k, .string nm, .bool mn, .slice la ln lc, .slice na nn nc', .slice ka kn kc, .slice aa an ac] db dd ∧ Cel V [.int .i64 k, .string nm, .bool mn, .slice la' ln' lc', .slice na' nn' nc'', .slice ka' kn kc', .slice aa' an ac'] eb ee ∧ V.cell? ⟨G, 2, none⟩ = some (.slice (some ⟨tk, 0, none⟩) C kc0)) := fun V k => ⟨cF.kept k hdl trivial, cH.kept k hel trivial, (h.below k).c2⟩
  have HL : Hid (∀ V, Kept (fun _ => True) w V → Calls Try.prog 52 #[.slice la ln lc, .slice la' ln' lc'] V fun e W' => ∃ v : Bool, e = .returned (.bool v) ∧ (v = true ↔ ln = ln' ∧ lk'.sim lk) ∧ Below V.heap.size V W') := fun V kV => sm_52 lk lk' ln ln' n0 V la la' lc lc' h3 h3' (Nat.le_trans hn0 kV.size) (Fo.Sub.kept kV (fun c hc => ⟨trivial, by have : c < n0 := hc; omega⟩) hs3) (Fo.Sub.kept kV (fun c hc => ⟨trivial, by have : c < n0 := hc; omega⟩) ht3)
  have HN : Hid (∀ V, Kept (fun _ => True) w V → Calls Try.prog 53 #[.slice na nn nc', .slice na' nn' nc''] V fun e W' => ∃ v : Bool, e = .returned (.bool v) ∧ (v = true ↔ nn = nn' ∧ nk'.sim nk) ∧ Below V.heap.size V W') := fun V kV => sm_53 nk nk' nn nn' n0 V na na' nc' nc'' h4 h4' (Nat.le_trans hn0 kV.size) (Fo.Sub.kept kV (fun c hc => ⟨trivial, by have : c < n0 := hc; omega⟩) hs4) (Fo.Sub.kept kV (fun c hc => ⟨trivial, by have : c < n0 := hc; omega⟩) ht4)
  obtain ⟨x8, x0, x1, x2, y0, y1, y2⟩ := HS.out w (Kept.refl _ _)
  clear t1 t2 ha' hb' hHd h hn0 hs3 hs4 ht3 ht4 cF cH h3 h4 h3' h4' hdl hel
  go_enter Try.func30, Try.ntmps30
  go_upto_region 1 with fail
  go_cut [7, 8] (fun s7 s8 wx => ∃ p q : Nat, s7 = .pointer (some ⟨p, 0, none⟩) ∧ s8 = .pointer (some ⟨q, 0, none⟩) ∧ Bx wx p [.pointer (some ⟨db, dd, none⟩), .int .i64 i1, .int .i64 i2] ∧ Bx wx q [.pointer (some ⟨eb, ee, none⟩), .int .i64 j1, .int .i64 j2] ∧ Kept (fun _ => True) w wx)
  case first =>
    go_region_held3 (fun V => V.cell? ⟨G, 8, none⟩ = some (.slice (some ⟨nb, 0, none⟩) n nc) ∧ V.cell? ⟨nb, a * 3, none⟩ = some (.pointer (some ⟨db, dd, none⟩)) ∧ V.cell? ⟨nb, a * 3 + 1, none⟩ = some (.int .i64 i1) ∧ V.cell? ⟨nb, a * 3 + 2, none⟩ = some (.int .i64 i2) ∧ V.cell? ⟨nb, b * 3, none⟩ = some (.pointer (some ⟨eb, ee, none⟩)) ∧ V.cell? ⟨nb, b * 3 + 1, none⟩ = some (.int .i64 j1) ∧ V.cell? ⟨nb, b * 3 + 2, none⟩ = some (.int .i64 j2))
      (first | with_reducible exact k0' | (refine HS.out _ ?_; repeat first | with_reducible exact Kept.refl _ _ | with_reducible refine Kept.alloc' ?_ | with_reducible refine Kept.drew' ?_ | with_reducible refine Kept.set' (by first | with_reducible exact Nat.le_refl _ | (simp; done) | (simp; omega)) ?_))
      (first | fail)
    all_goals
      go_wp2_with fail
      go_meet
      case rel =>
        first
          | exact ⟨_, _, rfl, rfl, (two_box w [.pointer (some ⟨db, dd, none⟩), .int .i64 i1, .int .i64 i2] [.pointer (some ⟨eb, ee, none⟩), .int .i64 j1, .int .i64 j2] 89 89).1, (two_box w [.pointer (some ⟨db, dd, none⟩), .int .i64 i1, .int .i64 i2] [.pointer (some ⟨eb, ee, none⟩), .int .i64 j1, .int .i64 j2] 89 89).2.1, (two_box w [.pointer (some ⟨db, dd, none⟩), .int .i64 i1, .int .i64 i2] [.pointer (some ⟨eb, ee, none⟩), .int .i64 j1, .int .i64 j2] 89 89).2.2⟩
          | exact ⟨_, _, rfl, rfl, (two_box w [.pointer (some ⟨eb, ee, none⟩), .int .i64 j1, .int .i64 j2] [.pointer (some ⟨db, dd, none⟩), .int .i64 i1, .int .i64 i2] 89 89).2.1, (two_box w [.pointer (some ⟨eb, ee, none⟩), .int .i64 j1, .int .i64 j2] [.pointer (some ⟨db, dd, none⟩), .int .i64 i1, .int .i64 i2] 89 89).1, (two_box w [.pointer (some ⟨eb, ee, none⟩), .int .i64 j1, .int .i64 j2] [.pointer (some ⟨db, dd, none⟩), .int .i64 i1, .int .i64 i2] 89 89).2.2⟩
  case rest =>
    obtain ⟨p, q, rfl, rfl, bp, bq, kx⟩ := hcut
    rename World => wx
    have KX := hide kx
    have HBP := hide bp
    have HBQ := hide bq
    have p0 := bp.cel 0 _ rfl
    have q0 := bq.cel 0 _ rfl
    obtain ⟨cf, cg, g2⟩ := HCF.out wx kx
    have a0 : wx.cell? ⟨db, dd, none⟩ = some (.int .i64 k) := cf 0 _ rfl
    have a1 : wx.cell? ⟨db, dd + 1, none⟩ = some (.string nm) := cf 1 _ rfl
    have a5 : wx.cell? ⟨db, dd + 5, none⟩ = some (.slice ka kn kc) := cf 5 _ rfl
    have a6 : wx.cell? ⟨db, dd + 6, none⟩ = some (.slice aa an ac) := cf 6 _ rfl
    have e0 : wx.cell? ⟨eb, ee, none⟩ = some (.int .i64 k) := cg 0 _ rfl
    have e1 : wx.cell? ⟨eb, ee + 1, none⟩ = some (.string nm) := cg 1 _ rfl
    have e5 : wx.cell? ⟨eb, ee + 5, none⟩ = some (.slice ka' kn kc') := cg 5 _ rfl
    have e6 : wx.cell? ⟨eb, ee + 6, none⟩ = some (.slice aa' an ac') := cg 6 _ rfl
    have p0d : wx.drew.cell? ⟨p, 0, none⟩ = some (.pointer (some ⟨db, dd, none⟩)) := p0
    have q0d : wx.drew.cell? ⟨q, 0, none⟩ = some (.pointer (some ⟨eb, ee, none⟩)) := q0
    have a0d : wx.drew.cell? ⟨db, dd, none⟩ = some (.int .i64 k) := a0
    have a1d : wx.drew.cell? ⟨db, dd + 1, none⟩ = some (.string nm) := a1
    have a5d : wx.drew.cell? ⟨db, dd + 5, none⟩ = some (.slice ka kn kc) := a5
    have a6d : wx.drew.cell? ⟨db, dd + 6, none⟩ = some (.slice aa an ac) := a6
    have e0d : wx.drew.cell? ⟨eb, ee, none⟩ = some (.int .i64 k) := e0
    have e1d : wx.drew.cell? ⟨eb, ee + 1, none⟩ = some (.string nm) := e1
    have e5d : wx.drew.cell? ⟨eb, ee + 5, none⟩ = some (.slice ka' kn kc') := e5
    have e6d : wx.drew.cell? ⟨eb, ee + 6, none⟩ = some (.slice aa' an ac') := e6
    have HBE : Hid (Below w.heap.size w wx.drew) := Below.kept (Below.refl w.heap.size w) (kx.trans (Kept.drew _ _)) (fun _ _ => trivial) (Nat.le_refl _)
    clear x8 x0 x1 x2 y0 y1 y2 k0' cf cg bp bq kx
    have g2d : wx.drew.cell? ⟨G, 2, none⟩ = some (.slice (some ⟨tk, 0, none⟩) C kc0) := g2
    have HSV' : Hid (∀ V, Kept (fun _ => True) wx V → V.cell? ⟨p, 0, none⟩ = some (.pointer (some ⟨db, dd, none⟩)) ∧ V.cell? ⟨q, 0, none⟩ = some (.pointer (some ⟨eb, ee, none⟩)) ∧ V.cell? ⟨db, dd + 2, none⟩ = some (.bool mn) ∧ V.cell? ⟨db, dd + 3, none⟩ = some (.slice la ln lc) ∧ V.cell? ⟨db, dd + 4, none⟩ = some (.slice na nn nc') ∧ V.cell? ⟨eb, ee + 2, none⟩ = some (.bool mn) ∧ V.cell? ⟨eb, ee + 3, none⟩ = some (.slice la' ln' lc') ∧ V.cell? ⟨eb, ee + 4, none⟩ = some (.slice na' nn' nc'')) := fun V kV => by
      obtain ⟨cf, cg, -⟩ := HCF.out V (KX.out.trans kV)
      exact ⟨(HBP.out.kept kV trivial).cel 0 _ rfl, (HBQ.out.kept kV trivial).cel 0 _ rfl, cf 2 _ rfl, cf 3 _ rfl, cf 4 _ rfl, cg 2 _ rfl, cg 3 _ rfl, cg 4 _ rfl⟩
    have HBN : Hid (∀ V, Kept (fun _ => True) wx V → Below w.heap.size w V) := fun V kV => Below.kept (Below.refl w.heap.size w) (KX.out.trans kV) (fun _ _ => trivial) (Nat.le_refl _)
    have HH1 : Hid (Calls Try.prog 51 #[.pointer (some ⟨xb, xo, none⟩), .pointer (some ⟨yb, yo, none⟩)] wx.drew.drew fun e W' => e = .returned (.bool true) ∧ Kept (fun _ => True) wx.drew.drew W') := (HHD.out _ (KX.out.trans ((Kept.drew _ _).trans (Kept.drew _ _)))).mono (fun e W' h => by
        obtain ⟨v, rfl, hv, hb⟩ := h
        exact ⟨by rw [hv.2 hH], kt hb⟩)
    have t0' := HST.out wx.drew.drew (KX.out.trans ((Kept.drew _ _).trans (Kept.drew _ _)))
    go_upto_region 2 with fail
    go_region
    all_goals
      go_upto_region 5 with fail
      go_region_held3 (fun V => V.cell? ⟨G, 6, none⟩ = some (.slice (some ⟨ta, 0, none⟩) D ac0) ∧ V.cell? ⟨ta, a', none⟩ = some (.pointer (some ⟨xb, xo, none⟩)) ∧ V.cell? ⟨ta, b', none⟩ = some (.pointer (some ⟨yb, yo, none⟩)))
        (first | with_reducible exact t8' | with_reducible exact t0')
        (first
          | (go_at_call 51; refine HH1.out.mono ?_; rintro e w7 ⟨rfl, b7⟩; have t8' := HST.out w7 (KX.out.trans (((Kept.drew _ _).trans (Kept.drew _ _)).trans b7)); have KD0 := hide (((Kept.drew _ _).trans (Kept.drew _ _)).trans b7); have KD : Hid (Kept (fun _ => True) wx w7.drew) := KD0.out.trans (Kept.drew _ _); clear b7))
      all_goals
        go_upto_region 7 with fail
        as_aux_lemma =>
          have HSV := HSV'
          have k0' := HSV.out _ KD.out
          have HL1 : Hid (Calls Try.prog 52 #[.slice la ln lc, .slice la' ln' lc'] w7.drew fun e W' => e = .returned (.bool true) ∧ Kept (fun _ => True) w7.drew W') := (HL.out _ (KX.out.trans KD.out)).mono (fun e W' h => by
            obtain ⟨v, rfl, hv, hb⟩ := h
            exact ⟨by rw [hv.2 hL.out], kt hb⟩)
          have HN1 : Hid (∀ V, Kept (fun _ => True) wx V → Calls Try.prog 53 #[.slice na nn nc', .slice na' nn' nc''] V fun e W' => ∃ v : Bool, e = .returned (.bool v) ∧ (v = true ↔ nn = nn' ∧ nk'.sim nk) ∧ Kept (fun _ => True) V W') := fun V kV => (HN.out V (KX.out.trans kV)).mono (fun e W' h => by
            obtain ⟨v, rfl, hv, hb⟩ := h
            exact ⟨v, rfl, hv, kt hb⟩)
          clear HL HN
          refine wp_region_held_drew (S := fun V => V.cell? ⟨p, 0, none⟩ = some (.pointer (some ⟨db, dd, none⟩)) ∧ V.cell? ⟨q, 0, none⟩ = some (.pointer (some ⟨eb, ee, none⟩)) ∧ V.cell? ⟨db, dd + 2, none⟩ = some (.bool mn) ∧ V.cell? ⟨db, dd + 3, none⟩ = some (.slice la ln lc) ∧ V.cell? ⟨db, dd + 4, none⟩ = some (.slice na nn nc') ∧ V.cell? ⟨eb, ee + 2, none⟩ = some (.bool mn) ∧ V.cell? ⟨eb, ee + 3, none⟩ = some (.slice la' ln' lc') ∧ V.cell? ⟨eb, ee + 4, none⟩ = some (.slice na' nn' nc'')) (by kernel_rfl) k0' (fun hHeld => ?_)
          refine' wpAnyH_take (i := 0) (oi := { dst := some 111, op := Op.fieldAddr 89 (Operand.tmp 7) 0, type := 0, pos := "l13_core.go:287", after := #[], guard := none }) (v := _) rfl (by kernel_rfl) (by kernel_rfl) (by kernel_rfl) (fun _ _ _ h => h) (Or.inl ⟨by rfl, ?hy0m⟩) (by assumption) ?rest0m
          case hy0m => (intro w hSw; (try dsimp only at hSw); go_simp; (try with_reducible rfl))
          try simp only [Act.put, List.setIfInBounds_toArray, List.set_cons_zero, List.set_cons_succ]
          refine' wpAnyH_take (i := 1) (oi := { dst := some 112, op := Op.load 87 (Operand.tmp 111), type := 87, pos := "l13_core.go:287", after := #[{ on := 0, ground := Ground.data }], guard := none }) (v := _) rfl (by kernel_rfl) (by kernel_rfl) (by kernel_rfl) (fun _ _ _ h => h) (Or.inl ⟨by rfl, ?hy1m⟩) (by assumption) ?rest1m
          case hy1m => (intro w hSw; (try dsimp only at hSw); go_simp; (try with_reducible rfl))
          try simp only [Act.put, List.setIfInBounds_toArray, List.set_cons_zero, List.set_cons_succ]
          refine' wpAnyH_take (i := 2) (oi := { dst := some 113, op := Op.nilCheck (Operand.tmp 112), type := 0, pos := "l13_core.go:287", after := #[{ on := 1, ground := Ground.data }], guard := none }) (v := _) rfl (by kernel_rfl) (by kernel_rfl) (by kernel_rfl) (fun _ _ _ h => h) (Or.inl ⟨by rfl, ?hy2m⟩) (by assumption) ?rest2m
          case hy2m => (intro w hSw; (try dsimp only at hSw); go_simp; (try with_reducible rfl))
          try simp only [Act.put, List.setIfInBounds_toArray, List.set_cons_zero, List.set_cons_succ]
          refine' wpAnyH_take (i := 3) (oi := { dst := some 114, op := Op.fieldAddr 36 (Operand.tmp 113) 2, type := 0, pos := "l13_core.go:287", after := #[{ on := 2, ground := Ground.data }], guard := none }) (v := _) rfl (by kernel_rfl) (by kernel_rfl) (by kernel_rfl) (fun _ _ _ h => h) (Or.inl ⟨by rfl, ?hy3m⟩) (by assumption) ?rest3m
          case hy3m => (intro w hSw; (try dsimp only at hSw); go_simp; (try with_reducible rfl))
          try simp only [Act.put, List.setIfInBounds_toArray, List.set_cons_zero, List.set_cons_succ]
          refine' wpAnyH_take (i := 4) (oi := { dst := some 115, op := Op.fieldAddr 32 (Operand.tmp 114) 0, type := 0, pos := "l13_core.go:287", after := #[{ on := 3, ground := Ground.data }], guard := none }) (v := _) rfl (by kernel_rfl) (by kernel_rfl) (by kernel_rfl) (fun _ _ _ h => h) (Or.inl ⟨by rfl, ?hy4m⟩) (by assumption) ?rest4m
          case hy4m => (intro w hSw; (try dsimp only at hSw); go_simp; (try with_reducible rfl))
          try simp only [Act.put, List.setIfInBounds_toArray, List.set_cons_zero, List.set_cons_succ]
          refine' wpAnyH_take (i := 5) (oi := { dst := some 116, op := Op.load 4 (Operand.tmp 115), type := 4, pos := "l13_core.go:287", after := #[{ on := 4, ground := Ground.data }], guard := none }) (v := _) rfl (by kernel_rfl) (by kernel_rfl) (by kernel_rfl) (fun _ _ _ h => h) (Or.inl ⟨by rfl, ?hy5m⟩) (by assumption) ?rest5m
          case hy5m => (intro w hSw; (try dsimp only at hSw); go_simp; (try with_reducible rfl))
          try simp only [Act.put, List.setIfInBounds_toArray, List.set_cons_zero, List.set_cons_succ]
          refine' wpAnyH_take (i := 6) (oi := { dst := some 117, op := Op.fieldAddr 89 (Operand.tmp 8) 0, type := 0, pos := "l13_core.go:287", after := #[], guard := none }) (v := _) rfl (by kernel_rfl) (by kernel_rfl) (by kernel_rfl) (fun _ _ _ h => h) (Or.inl ⟨by rfl, ?hy6m⟩) (by assumption) ?rest6m
          case hy6m => (intro w hSw; (try dsimp only at hSw); go_simp; (try with_reducible rfl))
          try simp only [Act.put, List.setIfInBounds_toArray, List.set_cons_zero, List.set_cons_succ]
          refine' wpAnyH_take (i := 7) (oi := { dst := some 118, op := Op.load 87 (Operand.tmp 117), type := 87, pos := "l13_core.go:287", after := #[{ on := 6, ground := Ground.data }], guard := none }) (v := _) rfl (by kernel_rfl) (by kernel_rfl) (by kernel_rfl) (fun _ _ _ h => h) (Or.inl ⟨by rfl, ?hy7m⟩) (by assumption) ?rest7m
          case hy7m => (intro w hSw; (try dsimp only at hSw); go_simp; (try with_reducible rfl))
          try simp only [Act.put, List.setIfInBounds_toArray, List.set_cons_zero, List.set_cons_succ]
          refine' wpAnyH_take (i := 8) (oi := { dst := some 119, op := Op.nilCheck (Operand.tmp 118), type := 0, pos := "l13_core.go:287", after := #[{ on := 7, ground := Ground.data }], guard := none }) (v := _) rfl (by kernel_rfl) (by kernel_rfl) (by kernel_rfl) (fun _ _ _ h => h) (Or.inl ⟨by rfl, ?hy8m⟩) (by assumption) ?rest8m
          case hy8m => (intro w hSw; (try dsimp only at hSw); go_simp; (try with_reducible rfl))
          try simp only [Act.put, List.setIfInBounds_toArray, List.set_cons_zero, List.set_cons_succ]
          refine' wpAnyH_take (i := 9) (oi := { dst := some 120, op := Op.fieldAddr 36 (Operand.tmp 119) 2, type := 0, pos := "l13_core.go:287", after := #[{ on := 8, ground := Ground.data }], guard := none }) (v := _) rfl (by kernel_rfl) (by kernel_rfl) (by kernel_rfl) (fun _ _ _ h => h) (Or.inl ⟨by rfl, ?hy9m⟩) (by assumption) ?rest9m
          case hy9m => (intro w hSw; (try dsimp only at hSw); go_simp; (try with_reducible rfl))
          try simp only [Act.put, List.setIfInBounds_toArray, List.set_cons_zero, List.set_cons_succ]
          refine' wpAnyH_take (i := 10) (oi := { dst := some 121, op := Op.fieldAddr 32 (Operand.tmp 120) 0, type := 0, pos := "l13_core.go:287", after := #[{ on := 9, ground := Ground.data }], guard := none }) (v := _) rfl (by kernel_rfl) (by kernel_rfl) (by kernel_rfl) (fun _ _ _ h => h) (Or.inl ⟨by rfl, ?hy10m⟩) (by assumption) ?rest10m
          case hy10m => (intro w hSw; (try dsimp only at hSw); go_simp; (try with_reducible rfl))
          try simp only [Act.put, List.setIfInBounds_toArray, List.set_cons_zero, List.set_cons_succ]
          refine' wpAnyH_take (i := 11) (oi := { dst := some 122, op := Op.load 4 (Operand.tmp 121), type := 4, pos := "l13_core.go:287", after := #[{ on := 10, ground := Ground.data }], guard := none }) (v := _) rfl (by kernel_rfl) (by kernel_rfl) (by kernel_rfl) (fun _ _ _ h => h) (Or.inl ⟨by rfl, ?hy11m⟩) (by assumption) ?rest11m
          case hy11m => (intro w hSw; (try dsimp only at hSw); go_simp; (try with_reducible rfl))
          try simp only [Act.put, List.setIfInBounds_toArray, List.set_cons_zero, List.set_cons_succ]
          refine' wpAnyH_take (i := 12) (oi := { dst := some 123, op := Op.binOp BinOp.eql 4 (Operand.tmp 116) (Operand.tmp 122) 4, type := 4, pos := "l13_core.go:287", after := #[{ on := 5, ground := Ground.data }, { on := 11, ground := Ground.data }], guard := none }) (v := _) rfl (by kernel_rfl) (by kernel_rfl) (by kernel_rfl) (fun _ _ _ h => h) (Or.inl ⟨by rfl, ?hy12m⟩) (by assumption) ?rest12m
          case hy12m => (intro w hSw; (try dsimp only at hSw); go_simp; (try with_reducible rfl))
          try simp only [Act.put, List.setIfInBounds_toArray, List.set_cons_zero, List.set_cons_succ]
          refine' wpAnyH_take (i := 13) (oi := { dst := some 124, op := Op.move (Operand.tmp 123), type := 4, pos := "l13_core.go:287", after := #[{ on := 12, ground := Ground.data }], guard := none }) (v := _) rfl (by kernel_rfl) (by kernel_rfl) (by kernel_rfl) (fun _ _ _ h => h) (Or.inl ⟨by rfl, ?hy13m⟩) (by assumption) ?rest13m
          case hy13m => (intro w hSw; (try dsimp only at hSw); go_simp; (try with_reducible rfl))
          try simp only [Act.put, List.setIfInBounds_toArray, List.set_cons_zero, List.set_cons_succ]
          refine' wpAnyH_take (i := 14) (oi := { dst := some 125, op := Op.fieldAddr 89 (Operand.tmp 7) 0, type := 0, pos := "l13_core.go:287", after := #[{ on := 13, ground := Ground.guard }], guard := some (13, true) }) (v := _) rfl (by kernel_rfl) (by kernel_rfl) (by kernel_rfl) (fun _ _ _ h => h) (Or.inl ⟨by rfl, ?hy14m⟩) (by assumption) ?rest14m
          case hy14m => (intro w hSw; (try dsimp only at hSw); go_simp; (try with_reducible rfl))
          try simp only [Act.put, List.setIfInBounds_toArray, List.set_cons_zero, List.set_cons_succ]
          refine' wpAnyH_take (i := 15) (oi := { dst := some 126, op := Op.load 87 (Operand.tmp 125), type := 87, pos := "l13_core.go:287", after := #[{ on := 14, ground := Ground.data }, { on := 13, ground := Ground.guard }], guard := some (13, true) }) (v := _) rfl (by kernel_rfl) (by kernel_rfl) (by kernel_rfl) (fun _ _ _ h => h) (Or.inl ⟨by rfl, ?hy15m⟩) (by assumption) ?rest15m
          case hy15m => (intro w hSw; (try dsimp only at hSw); go_simp; (try with_reducible rfl))
          try simp only [Act.put, List.setIfInBounds_toArray, List.set_cons_zero, List.set_cons_succ]
          refine' wpAnyH_take (i := 16) (oi := { dst := some 127, op := Op.nilCheck (Operand.tmp 126), type := 0, pos := "l13_core.go:287", after := #[{ on := 15, ground := Ground.data }, { on := 13, ground := Ground.guard }], guard := some (13, true) }) (v := _) rfl (by kernel_rfl) (by kernel_rfl) (by kernel_rfl) (fun _ _ _ h => h) (Or.inl ⟨by rfl, ?hy16m⟩) (by assumption) ?rest16m
          case hy16m => (intro w hSw; (try dsimp only at hSw); go_simp; (try with_reducible rfl))
          try simp only [Act.put, List.setIfInBounds_toArray, List.set_cons_zero, List.set_cons_succ]
          refine' wpAnyH_take (i := 17) (oi := { dst := some 128, op := Op.fieldAddr 36 (Operand.tmp 127) 2, type := 0, pos := "l13_core.go:287", after := #[{ on := 16, ground := Ground.data }, { on := 13, ground := Ground.guard }], guard := some (13, true) }) (v := _) rfl (by kernel_rfl) (by kernel_rfl) (by kernel_rfl) (fun _ _ _ h => h) (Or.inl ⟨by rfl, ?hy17m⟩) (by assumption) ?rest17m
          case hy17m => (intro w hSw; (try dsimp only at hSw); go_simp; (try with_reducible rfl))
          try simp only [Act.put, List.setIfInBounds_toArray, List.set_cons_zero, List.set_cons_succ]
          refine' wpAnyH_take (i := 18) (oi := { dst := some 129, op := Op.fieldAddr 32 (Operand.tmp 128) 1, type := 0, pos := "l13_core.go:287", after := #[{ on := 17, ground := Ground.data }, { on := 13, ground := Ground.guard }], guard := some (13, true) }) (v := _) rfl (by kernel_rfl) (by kernel_rfl) (by kernel_rfl) (fun _ _ _ h => h) (Or.inl ⟨by rfl, ?hy18m⟩) (by assumption) ?rest18m
          case hy18m => (intro w hSw; (try dsimp only at hSw); go_simp; (try with_reducible rfl))
          try simp only [Act.put, List.setIfInBounds_toArray, List.set_cons_zero, List.set_cons_succ]
          refine' wpAnyH_take (i := 19) (oi := { dst := some 130, op := Op.load 22 (Operand.tmp 129), type := 22, pos := "l13_core.go:287", after := #[{ on := 18, ground := Ground.data }, { on := 13, ground := Ground.guard }], guard := some (13, true) }) (v := _) rfl (by kernel_rfl) (by kernel_rfl) (by kernel_rfl) (fun _ _ _ h => h) (Or.inl ⟨by rfl, ?hy19m⟩) (by assumption) ?rest19m
          case hy19m => (intro w hSw; (try dsimp only at hSw); go_simp; (try with_reducible rfl))
          try simp only [Act.put, List.setIfInBounds_toArray, List.set_cons_zero, List.set_cons_succ]
          refine' wpAnyH_take (i := 20) (oi := { dst := some 131, op := Op.fieldAddr 89 (Operand.tmp 8) 0, type := 0, pos := "l13_core.go:287", after := #[{ on := 13, ground := Ground.guard }], guard := some (13, true) }) (v := _) rfl (by kernel_rfl) (by kernel_rfl) (by kernel_rfl) (fun _ _ _ h => h) (Or.inl ⟨by rfl, ?hy20m⟩) (by assumption) ?rest20m
          case hy20m => (intro w hSw; (try dsimp only at hSw); go_simp; (try with_reducible rfl))
          try simp only [Act.put, List.setIfInBounds_toArray, List.set_cons_zero, List.set_cons_succ]
          refine' wpAnyH_take (i := 21) (oi := { dst := some 132, op := Op.load 87 (Operand.tmp 131), type := 87, pos := "l13_core.go:287", after := #[{ on := 20, ground := Ground.data }, { on := 13, ground := Ground.guard }], guard := some (13, true) }) (v := _) rfl (by kernel_rfl) (by kernel_rfl) (by kernel_rfl) (fun _ _ _ h => h) (Or.inl ⟨by rfl, ?hy21m⟩) (by assumption) ?rest21m
          case hy21m => (intro w hSw; (try dsimp only at hSw); go_simp; (try with_reducible rfl))
          try simp only [Act.put, List.setIfInBounds_toArray, List.set_cons_zero, List.set_cons_succ]
          refine' wpAnyH_take (i := 22) (oi := { dst := some 133, op := Op.nilCheck (Operand.tmp 132), type := 0, pos := "l13_core.go:287", after := #[{ on := 21, ground := Ground.data }, { on := 13, ground := Ground.guard }], guard := some (13, true) }) (v := _) rfl (by kernel_rfl) (by kernel_rfl) (by kernel_rfl) (fun _ _ _ h => h) (Or.inl ⟨by rfl, ?hy22m⟩) (by assumption) ?rest22m
          case hy22m => (intro w hSw; (try dsimp only at hSw); go_simp; (try with_reducible rfl))
          try simp only [Act.put, List.setIfInBounds_toArray, List.set_cons_zero, List.set_cons_succ]
          refine' wpAnyH_take (i := 23) (oi := { dst := some 134, op := Op.fieldAddr 36 (Operand.tmp 133) 2, type := 0, pos := "l13_core.go:287", after := #[{ on := 22, ground := Ground.data }, { on := 13, ground := Ground.guard }], guard := some (13, true) }) (v := _) rfl (by kernel_rfl) (by kernel_rfl) (by kernel_rfl) (fun _ _ _ h => h) (Or.inl ⟨by rfl, ?hy23m⟩) (by assumption) ?rest23m
          case hy23m => (intro w hSw; (try dsimp only at hSw); go_simp; (try with_reducible rfl))
          try simp only [Act.put, List.setIfInBounds_toArray, List.set_cons_zero, List.set_cons_succ]
          refine' wpAnyH_take (i := 24) (oi := { dst := some 135, op := Op.fieldAddr 32 (Operand.tmp 134) 1, type := 0, pos := "l13_core.go:287", after := #[{ on := 23, ground := Ground.data }, { on := 13, ground := Ground.guard }], guard := some (13, true) }) (v := _) rfl (by kernel_rfl) (by kernel_rfl) (by kernel_rfl) (fun _ _ _ h => h) (Or.inl ⟨by rfl, ?hy24m⟩) (by assumption) ?rest24m
          case hy24m => (intro w hSw; (try dsimp only at hSw); go_simp; (try with_reducible rfl))
          try simp only [Act.put, List.setIfInBounds_toArray, List.set_cons_zero, List.set_cons_succ]
          refine' wpAnyH_take (i := 25) (oi := { dst := some 136, op := Op.load 22 (Operand.tmp 135), type := 22, pos := "l13_core.go:287", after := #[{ on := 24, ground := Ground.data }, { on := 13, ground := Ground.guard }], guard := some (13, true) }) (v := _) rfl (by kernel_rfl) (by kernel_rfl) (by kernel_rfl) (fun _ _ _ h => h) (Or.inl ⟨by rfl, ?hy25m⟩) (by assumption) ?rest25m
          case hy25m => (intro w hSw; (try dsimp only at hSw); go_simp; (try with_reducible rfl))
          try simp only [Act.put, List.setIfInBounds_toArray, List.set_cons_zero, List.set_cons_succ]
          refine wpAnyH_ready (rs := [26]) (by kernel_rfl) (by simp) ?_
          refine AllReadyH.cons (o := { dst := some 137, op := Op.call { callee := Callee.value (Operand.func 52), args := #[Operand.tmp 130, Operand.tmp 136], argTypes := #[22, 22] }, type := 4, pos := "l13_core.go:287", after := #[{ on := 19, ground := Ground.data }, { on := 25, ground := Ground.data }, { on := 13, ground := Ground.chain }, { on := 13, ground := Ground.guard }], guard := some (13, true) }) rfl (fun K hK => ?_) AllReadyH.nil
          go_simp
          refine HL1.out.mono ?_
          rintro e w8 ⟨rfl, b8⟩
          have kk1 := HSV.out w8 (KD.out.trans b8)
          have K8 := hide (KD.out.trans b8)
          have HN8 := hide (HN1.out w8 K8.out)
          clear b8
          refine hK.out _ _ kk1 (fun hHeld => ?_)
          clear hK K
          try simp only [Act.put, List.setIfInBounds_toArray, List.set_cons_zero, List.set_cons_succ]
          refine' wpAnyH_take (i := 27) (oi := { dst := some 138, op := Op.pick (Operand.tmp 124) (Operand.tmp 137) (Operand.const (Value.bool false)), type := 4, pos := "l13_core.go:287", after := #[{ on := 13, ground := Ground.data }, { on := 26, ground := Ground.data }], guard := none }) (v := _) rfl (by kernel_rfl) (by kernel_rfl) (by kernel_rfl) (fun _ _ _ h => h) (Or.inl ⟨by rfl, ?hy27m⟩) (by assumption) ?rest27m
          case hy27m => (intro w hSw; (try dsimp only at hSw); go_simp; (try with_reducible rfl))
          try simp only [Act.put, List.setIfInBounds_toArray, List.set_cons_zero, List.set_cons_succ]
          refine' wpAnyH_take (i := 28) (oi := { dst := some 139, op := Op.move (Operand.tmp 138), type := 4, pos := "l13_core.go:287", after := #[{ on := 27, ground := Ground.data }, { on := 26, ground := Ground.chain }], guard := none }) (v := _) rfl (by kernel_rfl) (by kernel_rfl) (by kernel_rfl) (fun _ _ _ h => h) (Or.inl ⟨by rfl, ?hy28m⟩) (by assumption) ?rest28m
          case hy28m => (intro w hSw; (try dsimp only at hSw); go_simp; (try with_reducible rfl))
          try simp only [Act.put, List.setIfInBounds_toArray, List.set_cons_zero, List.set_cons_succ]
          refine' wpAnyH_take (i := 29) (oi := { dst := some 140, op := Op.fieldAddr 89 (Operand.tmp 7) 0, type := 0, pos := "l13_core.go:287", after := #[{ on := 28, ground := Ground.guard }], guard := some (28, true) }) (v := _) rfl (by kernel_rfl) (by kernel_rfl) (by kernel_rfl) (fun _ _ _ h => h) (Or.inl ⟨by rfl, ?hy29m⟩) (by assumption) ?rest29m
          case hy29m => (intro w hSw; (try dsimp only at hSw); go_simp; (try with_reducible rfl))
          try simp only [Act.put, List.setIfInBounds_toArray, List.set_cons_zero, List.set_cons_succ]
          refine' wpAnyH_take (i := 30) (oi := { dst := some 141, op := Op.load 87 (Operand.tmp 140), type := 87, pos := "l13_core.go:287", after := #[{ on := 29, ground := Ground.data }, { on := 28, ground := Ground.guard }], guard := some (28, true) }) (v := _) rfl (by kernel_rfl) (by kernel_rfl) (by kernel_rfl) (fun _ _ _ h => h) (Or.inl ⟨by rfl, ?hy30m⟩) (by assumption) ?rest30m
          case hy30m => (intro w hSw; (try dsimp only at hSw); go_simp; (try with_reducible rfl))
          try simp only [Act.put, List.setIfInBounds_toArray, List.set_cons_zero, List.set_cons_succ]
          refine' wpAnyH_take (i := 31) (oi := { dst := some 142, op := Op.nilCheck (Operand.tmp 141), type := 0, pos := "l13_core.go:287", after := #[{ on := 30, ground := Ground.data }, { on := 28, ground := Ground.guard }], guard := some (28, true) }) (v := _) rfl (by kernel_rfl) (by kernel_rfl) (by kernel_rfl) (fun _ _ _ h => h) (Or.inl ⟨by rfl, ?hy31m⟩) (by assumption) ?rest31m
          case hy31m => (intro w hSw; (try dsimp only at hSw); go_simp; (try with_reducible rfl))
          try simp only [Act.put, List.setIfInBounds_toArray, List.set_cons_zero, List.set_cons_succ]
          refine' wpAnyH_take (i := 32) (oi := { dst := some 143, op := Op.fieldAddr 36 (Operand.tmp 142) 3, type := 0, pos := "l13_core.go:287", after := #[{ on := 31, ground := Ground.data }, { on := 28, ground := Ground.guard }], guard := some (28, true) }) (v := _) rfl (by kernel_rfl) (by kernel_rfl) (by kernel_rfl) (fun _ _ _ h => h) (Or.inl ⟨by rfl, ?hy32m⟩) (by assumption) ?rest32m
          case hy32m => (intro w hSw; (try dsimp only at hSw); go_simp; (try with_reducible rfl))
          try simp only [Act.put, List.setIfInBounds_toArray, List.set_cons_zero, List.set_cons_succ]
          refine' wpAnyH_take (i := 33) (oi := { dst := some 144, op := Op.load 25 (Operand.tmp 143), type := 25, pos := "l13_core.go:287", after := #[{ on := 32, ground := Ground.data }, { on := 28, ground := Ground.guard }], guard := some (28, true) }) (v := _) rfl (by kernel_rfl) (by kernel_rfl) (by kernel_rfl) (fun _ _ _ h => h) (Or.inl ⟨by rfl, ?hy33m⟩) (by assumption) ?rest33m
          case hy33m => (intro w hSw; (try dsimp only at hSw); go_simp; (try with_reducible rfl))
          try simp only [Act.put, List.setIfInBounds_toArray, List.set_cons_zero, List.set_cons_succ]
          refine' wpAnyH_take (i := 34) (oi := { dst := some 145, op := Op.fieldAddr 89 (Operand.tmp 8) 0, type := 0, pos := "l13_core.go:287", after := #[{ on := 28, ground := Ground.guard }], guard := some (28, true) }) (v := _) rfl (by kernel_rfl) (by kernel_rfl) (by kernel_rfl) (fun _ _ _ h => h) (Or.inl ⟨by rfl, ?hy34m⟩) (by assumption) ?rest34m
          case hy34m => (intro w hSw; (try dsimp only at hSw); go_simp; (try with_reducible rfl))
          try simp only [Act.put, List.setIfInBounds_toArray, List.set_cons_zero, List.set_cons_succ]
          refine' wpAnyH_take (i := 35) (oi := { dst := some 146, op := Op.load 87 (Operand.tmp 145), type := 87, pos := "l13_core.go:287", after := #[{ on := 34, ground := Ground.data }, { on := 28, ground := Ground.guard }], guard := some (28, true) }) (v := _) rfl (by kernel_rfl) (by kernel_rfl) (by kernel_rfl) (fun _ _ _ h => h) (Or.inl ⟨by rfl, ?hy35m⟩) (by assumption) ?rest35m
          case hy35m => (intro w hSw; (try dsimp only at hSw); go_simp; (try with_reducible rfl))
          try simp only [Act.put, List.setIfInBounds_toArray, List.set_cons_zero, List.set_cons_succ]
          refine' wpAnyH_take (i := 36) (oi := { dst := some 147, op := Op.nilCheck (Operand.tmp 146), type := 0, pos := "l13_core.go:287", after := #[{ on := 35, ground := Ground.data }, { on := 28, ground := Ground.guard }], guard := some (28, true) }) (v := _) rfl (by kernel_rfl) (by kernel_rfl) (by kernel_rfl) (fun _ _ _ h => h) (Or.inl ⟨by rfl, ?hy36m⟩) (by assumption) ?rest36m
          case hy36m => (intro w hSw; (try dsimp only at hSw); go_simp; (try with_reducible rfl))
          try simp only [Act.put, List.setIfInBounds_toArray, List.set_cons_zero, List.set_cons_succ]
          refine' wpAnyH_take (i := 37) (oi := { dst := some 148, op := Op.fieldAddr 36 (Operand.tmp 147) 3, type := 0, pos := "l13_core.go:287", after := #[{ on := 36, ground := Ground.data }, { on := 28, ground := Ground.guard }], guard := some (28, true) }) (v := _) rfl (by kernel_rfl) (by kernel_rfl) (by kernel_rfl) (fun _ _ _ h => h) (Or.inl ⟨by rfl, ?hy37m⟩) (by assumption) ?rest37m
          case hy37m => (intro w hSw; (try dsimp only at hSw); go_simp; (try with_reducible rfl))
          try simp only [Act.put, List.setIfInBounds_toArray, List.set_cons_zero, List.set_cons_succ]
          refine' wpAnyH_take (i := 38) (oi := { dst := some 149, op := Op.load 25 (Operand.tmp 148), type := 25, pos := "l13_core.go:287", after := #[{ on := 37, ground := Ground.data }, { on := 28, ground := Ground.guard }], guard := some (28, true) }) (v := _) rfl (by kernel_rfl) (by kernel_rfl) (by kernel_rfl) (fun _ _ _ h => h) (Or.inl ⟨by rfl, ?hy38m⟩) (by assumption) ?rest38m
          case hy38m => (intro w hSw; (try dsimp only at hSw); go_simp; (try with_reducible rfl))
          try simp only [Act.put, List.setIfInBounds_toArray, List.set_cons_zero, List.set_cons_succ]
          refine wpAnyH_ready (rs := [39]) (by kernel_rfl) (by simp) ?_
          refine AllReadyH.cons (o := { dst := some 150, op := Op.call { callee := Callee.value (Operand.func 53), args := #[Operand.tmp 144, Operand.tmp 149], argTypes := #[25, 25] }, type := 4, pos := "l13_core.go:287", after := #[{ on := 33, ground := Ground.data }, { on := 38, ground := Ground.data }, { on := 28, ground := Ground.chain }, { on := 28, ground := Ground.guard }], guard := some (28, true) }) rfl (fun K hK => ?_) AllReadyH.nil
          go_simp
          refine HN8.out.mono ?_
          rintro e w9 ⟨v9, rfl, hv9, b9⟩
          have kk2 := HSV.out w9 (K8.out.trans b9)
          have K9 := hide (K8.out.trans b9)
          have HV9 := hide hv9
          clear b9 hv9
          refine hK.out _ _ kk2 (fun hHeld => ?_)
          clear hK K
          try simp only [Act.put, List.setIfInBounds_toArray, List.set_cons_zero, List.set_cons_succ]
          refine' wpAnyH_take (i := 40) (oi := { dst := some 151, op := Op.pick (Operand.tmp 139) (Operand.tmp 150) (Operand.const (Value.bool false)), type := 4, pos := "l13_core.go:287", after := #[{ on := 28, ground := Ground.data }, { on := 39, ground := Ground.data }], guard := none }) (v := _) rfl (by kernel_rfl) (by kernel_rfl) (by kernel_rfl) (fun _ _ _ h => h) (Or.inl ⟨by rfl, ?hy40m⟩) (by assumption) ?rest40m
          case hy40m => (intro w hSw; (try dsimp only at hSw); go_simp; (try with_reducible rfl))
          try simp only [Act.put, List.setIfInBounds_toArray, List.set_cons_zero, List.set_cons_succ]
          refine' wpAnyH_take (i := 41) (oi := { dst := some 6, op := Op.assign (Operand.tmp 151), type := 4, pos := "l13_core.go:287", after := #[{ on := 40, ground := Ground.data }, { on := 39, ground := Ground.chain }, { on := 0, ground := Ground.phase }, { on := 1, ground := Ground.phase }, { on := 2, ground := Ground.phase }, { on := 3, ground := Ground.phase }, { on := 4, ground := Ground.phase }, { on := 5, ground := Ground.phase }, { on := 6, ground := Ground.phase }, { on := 7, ground := Ground.phase }, { on := 8, ground := Ground.phase }, { on := 9, ground := Ground.phase }, { on := 10, ground := Ground.phase }, { on := 11, ground := Ground.phase }, { on := 12, ground := Ground.phase }, { on := 13, ground := Ground.phase }, { on := 14, ground := Ground.phase }, { on := 15, ground := Ground.phase }, { on := 16, ground := Ground.phase }, { on := 17, ground := Ground.phase }, { on := 18, ground := Ground.phase }, { on := 19, ground := Ground.phase }, { on := 20, ground := Ground.phase }, { on := 21, ground := Ground.phase }, { on := 22, ground := Ground.phase }, { on := 23, ground := Ground.phase }, { on := 24, ground := Ground.phase }, { on := 25, ground := Ground.phase }, { on := 26, ground := Ground.phase }, { on := 27, ground := Ground.phase }, { on := 28, ground := Ground.phase }, { on := 29, ground := Ground.phase }, { on := 30, ground := Ground.phase }, { on := 31, ground := Ground.phase }, { on := 32, ground := Ground.phase }, { on := 33, ground := Ground.phase }, { on := 34, ground := Ground.phase }, { on := 35, ground := Ground.phase }, { on := 36, ground := Ground.phase }, { on := 37, ground := Ground.phase }, { on := 38, ground := Ground.phase }, { on := 39, ground := Ground.phase }, { on := 40, ground := Ground.phase }], guard := none }) (v := _) rfl (by kernel_rfl) (by kernel_rfl) (by kernel_rfl) (fun _ _ _ h => h) (Or.inl ⟨by rfl, ?hy41m⟩) (by assumption) ?rest41m
          case hy41m => (intro w hSw; (try dsimp only at hSw); go_simp; (try with_reducible rfl))
          try simp only [Act.put, List.setIfInBounds_toArray, List.set_cons_zero, List.set_cons_succ]
          refine wpAnyH_done (by kernel_rfl) ?_ _
          go_wp2_with fail
          go_ret
          exact ⟨v9, rfl, HV9.out.trans HY.out.symm, HBN.out _ K9.out⟩

end Go.Proofs.Ytfgmgbkiebeeoaa
