import Derived.Test.YtfgmgbkiebeeoaaRd
namespace Go.Proofs.Ytfgmgbkiebeeoaa
open Go.RowKit Go.Joins

set_option maxHeartbeats 60000000 in
set_option maxRecDepth 100000 in
theorem alone_alt_h {w : World} {G nb n nc a b db dd eb ee : Nat} {i1 i2 j1 j2 : Int} {C D kc0 ac0 tk ta : Nat} (h : AL w G nb n nc a b db dd eb ee i1 i2 j1 j2 C D kc0 ac0 tk ta) (ha : a < n) (hb : b < n) (hn : n ≤ 10000000) {a' b' : Nat} (ha' : a = C + a') (hb' : b = C + b') (hD : a' < D) (hD' : b' < D) {xb xo yb yo : Nat} (t1 : w.cell? ⟨ta, a', none⟩ = some (.pointer (some ⟨xb, xo, none⟩))) (t2 : w.cell? ⟨ta, b', none⟩ = some (.pointer (some ⟨yb, yo, none⟩))) {k : Int} {nm : ByteArray} {mn mn' : Bool} {la la' na na' ka ka' aa aa' : Option Addr} {ln ln' lc lc' nn nn' nc' nc'' kn kc kc' an ac ac' : Nat} {lk lk' nk nk' : Fo} {n0 : Nat} (h3 : Fit E lk (rep (E 0) ln)) (h3' : Fit E lk' (rep (E 0) ln')) (h4 : Fit E nk (rep (E 1) nn)) (h4' : Fit E nk' (rep (E 1) nn')) (hn0 : n0 ≤ w.heap.size) (hs3 : Fo.Sub w (fun c => c < n0) la ln lc lk) (ht3 : Fo.Sub w (fun c => c < n0) la' ln' lc' lk') (hs4 : Fo.Sub w (fun c => c < n0) na nn nc' nk) (ht4 : Fo.Sub w (fun c => c < n0) na' nn' nc'' nk') (cF : Cel w [.int .i64 k, .string nm, .bool mn, .slice la ln lc, .slice na nn nc', .slice ka kn kc, .slice aa an ac] db dd) (cH : Cel w [.int .i64 k, .string nm, .bool mn', .slice la' ln' lc', .slice na' nn' nc'', .slice ka' kn kc', .slice aa' an ac'] eb ee) (Q : Prop) (Hd : Prop) (hHd : ∀ V, Kept (fun _ => True) w V → Calls Try.prog 51 #[.pointer (some ⟨xb, xo, none⟩), .pointer (some ⟨yb, yo, none⟩)] V (SmP Hd V)) (hH : ¬ Hd) (HNS : Hid (¬ Q)) :
    Calls Try.prog 30 #[.pointer (some ⟨G, 0, none⟩), .int .i64 a, .int .i64 b] w (SmP Q w) := by
  have hai : (a : Int) < n := by omega
  have hbi : (b : Int) < n := by omega
  have hCi : (C : Int) ≤ a := by omega
  have hw1 : IntKind.i64.wrap ((a : Int) - C) = a' := by rw [show (a : Int) - C = a' by omega]; rw [IntKind.wrap_i64]; omega
  have hw2 : IntKind.i64.wrap ((b : Int) - C) = b' := by rw [show (b : Int) - C = b' by omega]; rw [IntKind.wrap_i64]; omega
  have hD1 : (a' : Int) < D := by omega
  have hD2 : (b' : Int) < D := by omega
  have HHD := hide hHd
  have HST : Hid (∀ V, Kept (fun _ => True) w V → V.cell? ⟨G, 6, none⟩ = some (.slice (some ⟨ta, 0, none⟩) D ac0) ∧ V.cell? ⟨ta, a', none⟩ = some (.pointer (some ⟨xb, xo, none⟩)) ∧ V.cell? ⟨ta, b', none⟩ = some (.pointer (some ⟨yb, yo, none⟩))) := fun V k => ⟨(h.below k).c6, (k.cell (block_lt_of_cell t1) trivial).trans t1, (k.cell (block_lt_of_cell t2) trivial).trans t2⟩
  have HS : Hid (∀ V, Kept (fun _ => True) w V → V.cell? ⟨G, 8, none⟩ = some (.slice (some ⟨nb, 0, none⟩) n nc) ∧ V.cell? ⟨nb, a * 3, none⟩ = some (.pointer (some ⟨db, dd, none⟩)) ∧ V.cell? ⟨nb, a * 3 + 1, none⟩ = some (.int .i64 i1) ∧ V.cell? ⟨nb, a * 3 + 2, none⟩ = some (.int .i64 i2) ∧ V.cell? ⟨nb, b * 3, none⟩ = some (.pointer (some ⟨eb, ee, none⟩)) ∧ V.cell? ⟨nb, b * 3 + 1, none⟩ = some (.int .i64 j1) ∧ V.cell? ⟨nb, b * 3 + 2, none⟩ = some (.int .i64 j2)) := fun V k => by
    have q := h.below k
    exact ⟨q.n8, q.a0, q.a1, q.a2, q.b0, q.b1, q.b2⟩
  have k0' := HS.out w.drew (Kept.drew _ _)
  have hdl : db < w.heap.size := block_lt_of_cell (cF 0 _ rfl)
  have hel : eb < w.heap.size := block_lt_of_cell (cH 0 _ rfl)
  have HCF : Hid (∀ V, Kept (fun _ => True) w V → Cel V [.int .i64 k, .string nm, .bool mn, .slice la ln lc, .slice na nn nc', .slice ka kn kc, .slice aa an ac] db dd ∧ Cel V [.int .i64 k, .string nm, .bool mn', .slice la' ln' lc', .slice na' nn' nc'', .slice ka' kn kc', .slice aa' an ac'] eb ee ∧ V.cell? ⟨G, 2, none⟩ = some (.slice (some ⟨tk, 0, none⟩) C kc0)) := fun V k => ⟨cF.kept k hdl trivial, cH.kept k hel trivial, (h.below k).c2⟩
  have HL : Hid (∀ V, Kept (fun _ => True) w V → Calls Try.prog 52 #[.slice la ln lc, .slice la' ln' lc'] V fun e W' => ∃ v : Bool, e = .returned (.bool v) ∧ (v = true ↔ ln = ln' ∧ lk'.sim lk) ∧ Below V.heap.size V W') := fun V kV => sm_52 lk lk' ln ln' n0 V la la' lc lc' h3 h3' (Nat.le_trans hn0 kV.size) (Fo.Sub.kept kV (fun c hc => ⟨trivial, by have : c < n0 := hc; omega⟩) hs3) (Fo.Sub.kept kV (fun c hc => ⟨trivial, by have : c < n0 := hc; omega⟩) ht3)
  have HN : Hid (∀ V, Kept (fun _ => True) w V → Calls Try.prog 53 #[.slice na nn nc', .slice na' nn' nc''] V fun e W' => ∃ v : Bool, e = .returned (.bool v) ∧ (v = true ↔ nn = nn' ∧ nk'.sim nk) ∧ Below V.heap.size V W') := fun V kV => sm_53 nk nk' nn nn' n0 V na na' nc' nc'' h4 h4' (Nat.le_trans hn0 kV.size) (Fo.Sub.kept kV (fun c hc => ⟨trivial, by have : c < n0 := hc; omega⟩) hs4) (Fo.Sub.kept kV (fun c hc => ⟨trivial, by have : c < n0 := hc; omega⟩) ht4)
  obtain ⟨x8, x0, x1, x2, y0, y1, y2⟩ := HS.out w (Kept.refl _ _)
  clear t1 t2 ha' hb' hHd h hn0 hs3 hs4 ht3 ht4 cF cH h3 h4 h3' h4' hdl hel
  go_enter Try.func30, Try.ntmps30
  go_upto_region 1 with fail
  go_cut [7, 8] (fun s7 s8 wx => ∃ p q : Nat, s7 = .pointer (some ⟨p, 0, none⟩) ∧ s8 = .pointer (some ⟨q, 0, none⟩) ∧ Bx wx p [.pointer (some ⟨db, dd, none⟩), .int .i64 i1, .int .i64 i2] ∧ Bx wx q [.pointer (some ⟨eb, ee, none⟩), .int .i64 j1, .int .i64 j2] ∧ Kept (fun _ => True) w wx)
  case first =>
    go_region_held3 (fun V => V.cell? ⟨G, 8, none⟩ = some (.slice (some ⟨nb, 0, none⟩) n nc) ∧ V.cell? ⟨nb, a * 3, none⟩ = some (.pointer (some ⟨db, dd, none⟩)) ∧ V.cell? ⟨nb, a * 3 + 1, none⟩ = some (.int .i64 i1) ∧ V.cell? ⟨nb, a * 3 + 2, none⟩ = some (.int .i64 i2) ∧ V.cell? ⟨nb, b * 3, none⟩ = some (.pointer (some ⟨eb, ee, none⟩)) ∧ V.cell? ⟨nb, b * 3 + 1, none⟩ = some (.int .i64 j1) ∧ V.cell? ⟨nb, b * 3 + 2, none⟩ = some (.int .i64 j2))
      (first | with_reducible exact k0' | (refine HS.out _ ?_; repeat first | with_reducible exact Kept.refl _ _ | with_reducible refine Kept.alloc' ?_ | with_reducible refine Kept.drew' ?_ | with_reducible refine Kept.set' (by first | with_reducible exact Nat.le_refl _ | (simp; done) | (simp; omega)) ?_))
      (first | fail)
    all_goals
      go_wp2_with fail
      go_meet
      case rel =>
        first
          | exact ⟨_, _, rfl, rfl, (two_box w [.pointer (some ⟨db, dd, none⟩), .int .i64 i1, .int .i64 i2] [.pointer (some ⟨eb, ee, none⟩), .int .i64 j1, .int .i64 j2] 89 89).1, (two_box w [.pointer (some ⟨db, dd, none⟩), .int .i64 i1, .int .i64 i2] [.pointer (some ⟨eb, ee, none⟩), .int .i64 j1, .int .i64 j2] 89 89).2.1, (two_box w [.pointer (some ⟨db, dd, none⟩), .int .i64 i1, .int .i64 i2] [.pointer (some ⟨eb, ee, none⟩), .int .i64 j1, .int .i64 j2] 89 89).2.2⟩
          | exact ⟨_, _, rfl, rfl, (two_box w [.pointer (some ⟨eb, ee, none⟩), .int .i64 j1, .int .i64 j2] [.pointer (some ⟨db, dd, none⟩), .int .i64 i1, .int .i64 i2] 89 89).2.1, (two_box w [.pointer (some ⟨eb, ee, none⟩), .int .i64 j1, .int .i64 j2] [.pointer (some ⟨db, dd, none⟩), .int .i64 i1, .int .i64 i2] 89 89).1, (two_box w [.pointer (some ⟨eb, ee, none⟩), .int .i64 j1, .int .i64 j2] [.pointer (some ⟨db, dd, none⟩), .int .i64 i1, .int .i64 i2] 89 89).2.2⟩
  case rest =>
    obtain ⟨p, q, rfl, rfl, bp, bq, kx⟩ := hcut
    rename World => wx
    have KX := hide kx
    have HBP := hide bp
    have HBQ := hide bq
    have p0 := bp.cel 0 _ rfl
    have q0 := bq.cel 0 _ rfl
    obtain ⟨cf, cg, g2⟩ := HCF.out wx kx
    have a0 : wx.cell? ⟨db, dd, none⟩ = some (.int .i64 k) := cf 0 _ rfl
    have a1 : wx.cell? ⟨db, dd + 1, none⟩ = some (.string nm) := cf 1 _ rfl
    have a5 : wx.cell? ⟨db, dd + 5, none⟩ = some (.slice ka kn kc) := cf 5 _ rfl
    have a6 : wx.cell? ⟨db, dd + 6, none⟩ = some (.slice aa an ac) := cf 6 _ rfl
    have e0 : wx.cell? ⟨eb, ee, none⟩ = some (.int .i64 k) := cg 0 _ rfl
    have e1 : wx.cell? ⟨eb, ee + 1, none⟩ = some (.string nm) := cg 1 _ rfl
    have e5 : wx.cell? ⟨eb, ee + 5, none⟩ = some (.slice ka' kn kc') := cg 5 _ rfl
    have e6 : wx.cell? ⟨eb, ee + 6, none⟩ = some (.slice aa' an ac') := cg 6 _ rfl
    have p0d : wx.drew.cell? ⟨p, 0, none⟩ = some (.pointer (some ⟨db, dd, none⟩)) := p0
    have q0d : wx.drew.cell? ⟨q, 0, none⟩ = some (.pointer (some ⟨eb, ee, none⟩)) := q0
    have a0d : wx.drew.cell? ⟨db, dd, none⟩ = some (.int .i64 k) := a0
    have a1d : wx.drew.cell? ⟨db, dd + 1, none⟩ = some (.string nm) := a1
    have a5d : wx.drew.cell? ⟨db, dd + 5, none⟩ = some (.slice ka kn kc) := a5
    have a6d : wx.drew.cell? ⟨db, dd + 6, none⟩ = some (.slice aa an ac) := a6
    have e0d : wx.drew.cell? ⟨eb, ee, none⟩ = some (.int .i64 k) := e0
    have e1d : wx.drew.cell? ⟨eb, ee + 1, none⟩ = some (.string nm) := e1
    have e5d : wx.drew.cell? ⟨eb, ee + 5, none⟩ = some (.slice ka' kn kc') := e5
    have e6d : wx.drew.cell? ⟨eb, ee + 6, none⟩ = some (.slice aa' an ac') := e6
    have HBE : Hid (Below w.heap.size w wx.drew) := Below.kept (Below.refl w.heap.size w) (kx.trans (Kept.drew _ _)) (fun _ _ => trivial) (Nat.le_refl _)
    clear x8 x0 x1 x2 y0 y1 y2 k0' cf cg bp bq kx
    have g2d : wx.drew.cell? ⟨G, 2, none⟩ = some (.slice (some ⟨tk, 0, none⟩) C kc0) := g2
    have HSV' : Hid (∀ V, Kept (fun _ => True) wx V → V.cell? ⟨p, 0, none⟩ = some (.pointer (some ⟨db, dd, none⟩)) ∧ V.cell? ⟨q, 0, none⟩ = some (.pointer (some ⟨eb, ee, none⟩)) ∧ V.cell? ⟨db, dd + 2, none⟩ = some (.bool mn) ∧ V.cell? ⟨db, dd + 3, none⟩ = some (.slice la ln lc) ∧ V.cell? ⟨db, dd + 4, none⟩ = some (.slice na nn nc') ∧ V.cell? ⟨eb, ee + 2, none⟩ = some (.bool mn') ∧ V.cell? ⟨eb, ee + 3, none⟩ = some (.slice la' ln' lc') ∧ V.cell? ⟨eb, ee + 4, none⟩ = some (.slice na' nn' nc'')) := fun V kV => by
      obtain ⟨cf, cg, -⟩ := HCF.out V (KX.out.trans kV)
      exact ⟨(HBP.out.kept kV trivial).cel 0 _ rfl, (HBQ.out.kept kV trivial).cel 0 _ rfl, cf 2 _ rfl, cf 3 _ rfl, cf 4 _ rfl, cg 2 _ rfl, cg 3 _ rfl, cg 4 _ rfl⟩
    have HBN : Hid (∀ V, Kept (fun _ => True) wx V → Below w.heap.size w V) := fun V kV => Below.kept (Below.refl w.heap.size w) (KX.out.trans kV) (fun _ _ => trivial) (Nat.le_refl _)
    have HH1 : Hid (Calls Try.prog 51 #[.pointer (some ⟨xb, xo, none⟩), .pointer (some ⟨yb, yo, none⟩)] wx.drew.drew fun e W' => e = .returned (.bool false) ∧ Kept (fun _ => True) wx.drew.drew W') := (HHD.out _ (KX.out.trans ((Kept.drew _ _).trans (Kept.drew _ _)))).mono (fun e W' h => by
        obtain ⟨v, rfl, hv, hb⟩ := h
        cases v with
        | true => exact absurd (hv.1 rfl) hH
        | false => exact ⟨rfl, kt hb⟩)
    have t0' := HST.out wx.drew.drew (KX.out.trans ((Kept.drew _ _).trans (Kept.drew _ _)))
    go_upto_region 2 with fail
    go_region
    all_goals
      go_upto_region 5 with fail
      go_region_held3 (fun V => V.cell? ⟨G, 6, none⟩ = some (.slice (some ⟨ta, 0, none⟩) D ac0) ∧ V.cell? ⟨ta, a', none⟩ = some (.pointer (some ⟨xb, xo, none⟩)) ∧ V.cell? ⟨ta, b', none⟩ = some (.pointer (some ⟨yb, yo, none⟩)))
        (first | with_reducible exact t8' | with_reducible exact t0')
        (first
          | (go_at_call 51; refine HH1.out.mono ?_; rintro e w7 ⟨rfl, b7⟩; have t8' := HST.out w7 (KX.out.trans (((Kept.drew _ _).trans (Kept.drew _ _)).trans b7)); have KD0 := hide (((Kept.drew _ _).trans (Kept.drew _ _)).trans b7); have KD : Hid (Kept (fun _ => True) wx w7.drew) := KD0.out.trans (Kept.drew _ _); clear b7))
      all_goals
        go_wp2_with fail
        go_ret
        exact SmP.no HNS.out (HBN.out _ KD0.out)

end Go.Proofs.Ytfgmgbkiebeeoaa
