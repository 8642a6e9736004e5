import Derived.Test.YtppfohpgcofkbaaHm
namespace Go.Proofs.Ytppfohpgcofkbaa
open Go.RowKit Go.Joins

theorem mw_1 (p : Value) (w : World) : (method 260 (tyK 1) (.agg #[p]) "loop.example/g00017/impl.write").run Try.prog w = .ok (68, .agg #[p]) w := by kernel_rfl
theorem mw_2 (p : Value) (w : World) : (method 260 (tyK 2) (.agg #[p]) "loop.example/g00017/impl.write").run Try.prog w = .ok (77, .agg #[p]) w := by kernel_rfl
theorem mw_3 (p : Value) (w : World) : (method 260 (tyK 3) (.agg #[p]) "loop.example/g00017/impl.write").run Try.prog w = .ok (85, .agg #[p]) w := by kernel_rfl
theorem mw_4 (p : Value) (w : World) : (method 260 (tyK 4) (.agg #[p]) "loop.example/g00017/impl.write").run Try.prog w = .ok (68, .agg #[p]) w := by kernel_rfl
theorem mw_5 (p : Value) (w : World) : (method 260 (tyK 5) (.agg #[p]) "loop.example/g00017/impl.write").run Try.prog w = .ok (94, .agg #[p]) w := by kernel_rfl
theorem mw_6 (p : Value) (w : World) : (method 260 (tyK 6) (.agg #[p]) "loop.example/g00017/impl.write").run Try.prog w = .ok (96, .agg #[p]) w := by kernel_rfl
theorem mw_7 (p : Value) (w : World) : (method 260 (tyK 7) (.agg #[p]) "loop.example/g00017/impl.write").run Try.prog w = .ok (103, .agg #[p]) w := by kernel_rfl
theorem mw_8 (p : Value) (w : World) : (method 260 (tyK 8) (.agg #[p]) "loop.example/g00017/impl.write").run Try.prog w = .ok (106, .agg #[p]) w := by kernel_rfl
theorem mw_9 (p : Value) (w : World) : (method 260 (tyK 9) (.agg #[p]) "loop.example/g00017/impl.write").run Try.prog w = .ok (68, .agg #[p]) w := by kernel_rfl
theorem mw_10 (p : Value) (w : World) : (method 260 (tyK 10) (.agg #[p]) "loop.example/g00017/impl.write").run Try.prog w = .ok (110, .agg #[p]) w := by kernel_rfl
theorem ew_68 : ∀ args w, (callFunc 68 args).run Try.prog w = .ok (.enter 68 args) w := enters_of Try.func68 (by kernel_rfl) rfl
theorem ew_77 : ∀ args w, (callFunc 77 args).run Try.prog w = .ok (.enter 77 args) w := enters_of Try.func77 (by kernel_rfl) rfl
theorem ew_85 : ∀ args w, (callFunc 85 args).run Try.prog w = .ok (.enter 85 args) w := enters_of Try.func85 (by kernel_rfl) rfl
theorem ew_94 : ∀ args w, (callFunc 94 args).run Try.prog w = .ok (.enter 94 args) w := enters_of Try.func94 (by kernel_rfl) rfl
theorem ew_96 : ∀ args w, (callFunc 96 args).run Try.prog w = .ok (.enter 96 args) w := enters_of Try.func96 (by kernel_rfl) rfl
theorem ew_103 : ∀ args w, (callFunc 103 args).run Try.prog w = .ok (.enter 103 args) w := enters_of Try.func103 (by kernel_rfl) rfl
theorem ew_106 : ∀ args w, (callFunc 106 args).run Try.prog w = .ok (.enter 106 args) w := enters_of Try.func106 (by kernel_rfl) rfl
theorem ew_110 : ∀ args w, (callFunc 110 args).run Try.prog w = .ok (.enter 110 args) w := enters_of Try.func110 (by kernel_rfl) rfl

set_option maxHeartbeats 1000000 in
set_option maxRecDepth 100000 in
theorem pt_go (f : Nat) (db do_ b : Nat) (k : Int) (W : World) (c0 : W.cell? ⟨db, do_, none⟩ = some (.int .i64 k)) (hme : ∀ w, (method 260 (tyK k) (.agg #[.pointer (some ⟨db, do_, none⟩)]) "loop.example/g00017/impl.write").run Try.prog w = .ok (f, .agg #[.pointer (some ⟨db, do_, none⟩)]) w) (hen : ∀ args w, (callFunc f args).run Try.prog w = .ok (.enter f args) w) (R : World → Prop)
    (h : Calls Try.prog f #[.agg #[.pointer (some ⟨db, do_, none⟩)], .pointer (some ⟨b, 0, none⟩)] (W.alloc (.cells #[.pointer (some ⟨db, do_, none⟩)] 96)) fun e W' => e = .returned (.tuple #[]) ∧ R W') :
    Calls Try.prog 20 #[.pointer (some ⟨b, 0, none⟩), .pointer (some ⟨db, do_, none⟩)] W fun e W' => e = .returned (.tuple #[]) ∧ R W' := by
  have HT := hide (i_term ⟨db, do_, .nil⟩ W k c0 (block_lt_of_cell c0))
  have HME := hme (W.alloc (.cells #[.pointer (some ⟨db, do_, none⟩)] 96))
  simp only [Nd.ptr] at HT
  have HH := hide h
  clear h hme
  go_enter Try.func20, Try.ntmps20
  go_wp2_with fail
  refine HT.out.mono ?_
  clear HT
  rintro e w1 ⟨rfl, rfl⟩
  go_wp2_with fail
  refine HH.out.mono ?_
  rintro e w2 ⟨rfl, hR⟩
  have HR := hide hR
  clear hR HH
  go_wp2_with fail
  go_end0
  exact ⟨rfl, HR.out⟩

end Go.Proofs.Ytppfohpgcofkbaa

namespace Go.Proofs.Ytppfohpgcofkbaa
open Go.RowKit Go.Joins

set_option maxHeartbeats 4000000 in
theorem wt_step (b m : Nat) (hm16 : m + 1 ≤ 16777216) (ih : WtC b m) : WtC b (m + 1) := by
  intro d l W hm hok hgd hwt h hl
  have hf := hok.fit
  have hcel := hok.cel
  have hs := hok.subs
  have hat := hok.at_
  obtain ⟨db, do_, F⟩ := d
  simp only at hm hgd hwt hl hf hcel hs hat
  obtain ⟨k, nm, mn, la, ln, lc, lk, na, nn, nc, nk, ka, kn, kc, kk, aa, an, ac, ak, rfl, -, hnm, h3, h4, h5, h6⟩ := core_open hf
  have c0 : W.cell? ⟨db, do_, none⟩ = some (.int .i64 k) := hcel 0 _ rfl
  have hw := (Wr.start h).alloc (.cells #[.pointer (some ⟨db, do_, none⟩)] 96)
  have hs := hs.below hw.low (fun _ hc => hc)
  have hcel := hcel.below hw.low hat
  obtain ⟨Wb, hWb⟩ : ∃ Wb, W.alloc (.cells #[.pointer (some ⟨db, do_, none⟩)] 96) = Wb := ⟨_, rfl⟩
  obtain ⟨hs3, hs4, hs5, hs6, -⟩ := hs
  have hbb := hw.is
  rw [hWb] at hw hs3 hs4 hs5 hs6 hcel hbb
  simp only [fx_nd] at hl ⊢
  rw [rdK_nd, rdK_nil] at hgd
  obtain ⟨hshp, hgk, hga, -⟩ := hgd
  rw [rdK_len kn kk h5] at hshp
  simp only [Fo.vals] at hcel
  simp only [Fo.size, Fo.wt, textSize] at hm hwt
  have hlz : ∀ {n w : Nat} {F : Fo} {k' : Nat}, Fit E F (rep (E k') n) → (E k').length = w → 0 < w → n ≤ F.size := fun {n w F k'} h e hw => by
    have e1 := Fit.len h
    rw [rep_len, e] at e1
    have := F.len_le
    have := Nat.le_mul_of_pos_right n hw
    omega
  have z5 := hlz h5 rfl (by decide)
  have z6 := hlz h6 rfl (by decide)
  have z4 := hlz h4 rfl (by decide)
  obtain ⟨hsr, hsl⟩ := sr_of h4 hs4
  have c1 : Wb.cell? ⟨db, do_ + 1, none⟩ = some (.string nm) := hcel 1 _ rfl
  have c2 : Wb.cell? ⟨db, do_ + 2, none⟩ = some (.bool mn) := hcel 2 _ rfl
  have c3 : Wb.cell? ⟨db, do_ + 3, none⟩ = some (.slice la ln lc) := hcel 3 _ rfl
  have c4 : Wb.cell? ⟨db, do_ + 4, none⟩ = some (.slice na (rdS nk).length nc) := by rw [hsl]; exact hcel 4 _ rfl
  have c5 : Wb.cell? ⟨db, do_ + 5, none⟩ = some (.slice ka kn kc) := hcel 5 _ rfl
  have c6 : Wb.cell? ⟨db, do_ + 6, none⟩ = some (.slice aa an ac) := hcel 6 _ rfl
  show Calls Try.prog 20 #[.pointer (some ⟨b, 0, none⟩), .pointer (some ⟨db, do_, none⟩)] W _
  by_cases e1 : k = 1
  · subst e1
    have ho : one ⟨⟨#[]⟩, [], 1, nm, mn, rdU lk, rdS nk⟩ (KT kk) (AT ak) = bs nm := by dsimp only [one]; rw [if_pos rfl]
    rw [ho] at hl ⊢
    obtain ⟨-, -, -, -, -, hk0⟩ := (shp_1 _ _ _ _ _ _ _ _).1 hshp
    subst hk0
    exact pt_go 68 db do_ b 1 W c0 (fun w => mw_1 _ w) ew_68 (fun W' => Wr b _ W W') (hWb ▸ ((wk_0 ⟨db, do_, .nil⟩ b nm ka kc l Wb hat c1 c5 hbb (by exact hl))).mono fun e W' ⟨g1, g2⟩ => ⟨g1, hw.trans g2⟩)
  by_cases e2 : k = 2
  · subst e2
    have ho : one ⟨⟨#[]⟩, [], 2, nm, mn, rdU lk, rdS nk⟩ (KT kk) (AT ak) = num mn (rdU lk) := by dsimp only [one]; rw [if_neg (by decide), if_pos rfl]
    rw [ho] at hl ⊢
    exact pt_go 77 db do_ b 2 W c0 (fun w => mw_2 _ w) ew_77 (fun W' => Wr b _ W W') (hWb ▸ ((wk_num ⟨db, do_, .nil⟩ b mn la lc ln lk h3 l Wb hs3 hat c2 c3 hbb (by exact hl))).mono fun e W' ⟨g1, g2⟩ => ⟨g1, hw.trans g2⟩)
  by_cases e3 : k = 3
  · subst e3
    have ho : one ⟨⟨#[]⟩, [], 3, nm, mn, rdU lk, rdS nk⟩ (KT kk) (AT ak) = escT 39 nm := by dsimp only [one]; rw [if_neg (by decide), if_neg (by decide), if_pos rfl]
    rw [ho] at hl ⊢
    exact pt_go 85 db do_ b 3 W c0 (fun w => mw_3 _ w) ew_85 (fun W' => Wr b _ W W') (hWb ▸ ((wk_chr ⟨db, do_, .nil⟩ b nm l Wb (by omega) hat c1 hbb (by exact hl))).mono fun e W' ⟨g1, g2⟩ => ⟨g1, hw.trans g2⟩)
  by_cases e10 : k = 10
  · subst e10
    have ho : one ⟨⟨#[]⟩, [], 10, nm, mn, rdU lk, rdS nk⟩ (KT kk) (AT ak) = escT 34 nm := by dsimp only [one]; rw [if_neg (by decide), if_neg (by decide), if_neg (by decide), if_pos rfl]
    rw [ho] at hl ⊢
    exact pt_go 110 db do_ b 10 W c0 (fun w => mw_10 _ w) ew_110 (fun W' => Wr b _ W W') (hWb ▸ ((wk_txt ⟨db, do_, .nil⟩ b nm l Wb (by omega) hat c1 hbb (by exact hl))).mono fun e W' ⟨g1, g2⟩ => ⟨g1, hw.trans g2⟩)
  have hkn : kn ≤ 16777216 := by omega
  have hkt : KT kk = [] ↔ kn = 0 := by
    constructor
    · intro e
      by_cases h0 : 0 < kn
      · obtain ⟨x, q, b, o, rfl, hx, -⟩ := (Rd.start h5 hs5).next h0 (by decide)
        rw [KT_app hx] at e
        cases e
      · omega
    · intro e
      rw [e] at h5
      rw [fit_nil h5, KT_nil]
  by_cases e4 : k = 4
  · subst e4
    by_cases h0 : kn = 0
    · have ho : one ⟨⟨#[]⟩, [], 4, nm, mn, rdU lk, rdS nk⟩ (KT kk) (AT ak) = bs nm := by dsimp only [one]; rw [if_neg (by decide), if_neg (by decide), if_neg (by decide), if_neg (by decide), if_pos (by decide), if_pos (hkt.2 h0)]
      rw [ho] at hl ⊢
      subst h0
      exact pt_go 68 db do_ b 4 W c0 (fun w => mw_4 _ w) ew_68 (fun W' => Wr b _ W W') (hWb ▸ ((wk_0 ⟨db, do_, .nil⟩ b nm ka kc l Wb hat c1 c5 hbb (by exact hl))).mono fun e W' ⟨g1, g2⟩ => ⟨g1, hw.trans g2⟩)
    · have ho : one ⟨⟨#[]⟩, [], 4, nm, mn, rdU lk, rdS nk⟩ (KT kk) (AT ak) = [40] ++ bs nm ++ (KT kk).flatMap (fun t => [32] ++ t) ++ [41] := by dsimp only [one]; rw [if_neg (by decide), if_neg (by decide), if_neg (by decide), if_neg (by decide), if_pos (by decide), if_neg (fun h => h0 (hkt.1 h))]
      rw [ho] at hl ⊢
      exact pt_go 68 db do_ b 4 W c0 (fun w => mw_4 _ w) ew_68 (fun W' => Wr b _ W W') (hWb ▸ ((wk_4 ⟨db, do_, .nil⟩ b m ih nm ka kn kc kk l Wb hat c1 c5 (by omega) hkn h5 hs5 hgk ⟨by omega, by omega⟩ hbb (by exact hl))).mono fun e W' ⟨g1, g2⟩ => ⟨g1, hw.trans g2⟩)
  by_cases e9 : k = 9
  · subst e9
    by_cases h0 : kn = 0
    · have ho : one ⟨⟨#[]⟩, [], 9, nm, mn, rdU lk, rdS nk⟩ (KT kk) (AT ak) = bs nm := by dsimp only [one]; rw [if_neg (by decide), if_neg (by decide), if_neg (by decide), if_neg (by decide), if_pos (by decide), if_pos (hkt.2 h0)]
      rw [ho] at hl ⊢
      subst h0
      exact pt_go 68 db do_ b 9 W c0 (fun w => mw_9 _ w) ew_68 (fun W' => Wr b _ W W') (hWb ▸ ((wk_0 ⟨db, do_, .nil⟩ b nm ka kc l Wb hat c1 c5 hbb (by exact hl))).mono fun e W' ⟨g1, g2⟩ => ⟨g1, hw.trans g2⟩)
    · have ho : one ⟨⟨#[]⟩, [], 9, nm, mn, rdU lk, rdS nk⟩ (KT kk) (AT ak) = [40] ++ bs nm ++ (KT kk).flatMap (fun t => [32] ++ t) ++ [41] := by dsimp only [one]; rw [if_neg (by decide), if_neg (by decide), if_neg (by decide), if_neg (by decide), if_pos (by decide), if_neg (fun h => h0 (hkt.1 h))]
      rw [ho] at hl ⊢
      exact pt_go 68 db do_ b 9 W c0 (fun w => mw_9 _ w) ew_68 (fun W' => Wr b _ W W') (hWb ▸ ((wk_4 ⟨db, do_, .nil⟩ b m ih nm ka kn kc kk l Wb hat c1 c5 (by omega) hkn h5 hs5 hgk ⟨by omega, by omega⟩ hbb (by exact hl))).mono fun e W' ⟨g1, g2⟩ => ⟨g1, hw.trans g2⟩)
  by_cases e5 : k = 5
  · subst e5
    obtain ⟨-, -, -, -, -, hk2⟩ := (shp_5 _ _ _ _ _ _ _ _).1 hshp
    have ho : one ⟨⟨#[]⟩, [], 5, nm, mn, rdU lk, rdS nk⟩ (KT kk) (AT ak) = [40] ++ sepB [32] (KT kk) ++ [41] := by
      dsimp only [one]
      rw [if_neg (by decide), if_neg (by decide), if_neg (by decide), if_neg (by decide), if_neg (by decide), if_pos rfl]
    rw [ho] at hl ⊢
    exact pt_go 94 db do_ b 5 W c0 (fun w => mw_5 _ w) ew_94 (fun W' => Wr b _ W W') (hWb ▸ ((wk_5 ⟨db, do_, .nil⟩ b m ih ka kn kc kk l Wb hat c5 (by omega) hkn h5 hs5 hgk ⟨by omega, by omega⟩ hbb (by exact hl))).mono fun e W' ⟨g1, g2⟩ => ⟨g1, hw.trans g2⟩)
  by_cases e6 : k = 6
  · subst e6
    have hsp := (shp_6 _ _ _ _ _ _ _ _).1 hshp
    have hk1 : kn = 1 := hsp.2.2.2.2.1
    have ho : one ⟨⟨#[]⟩, [], 6, nm, mn, rdU lk, rdS nk⟩ (KT kk) (AT ak) = [40, 92] ++ sepB [32] ((rdS nk).map bs) ++ arrow ++ (KT kk).headD [] ++ [41] := by
      dsimp only [one]
      rw [if_neg (by decide), if_neg (by decide), if_neg (by decide), if_neg (by decide), if_neg (by decide), if_neg (by decide), if_pos rfl]
    rw [ho] at hl ⊢
    have hln := hl
    rw [← List.length_append] at hln
    exact pt_go 96 db do_ b 6 W c0 (fun w => mw_6 _ w) ew_96 (fun W' => Wr b _ W W') (hWb ▸ ((wk_6 ⟨db, do_, .nil⟩ b m ih na nc (rdS nk) ka kn kc kk l Wb hat c4 c5 hsr hsr.le hsp.2.2.2.2.2.1 (by omega) (by omega) h5 hs5 hgk ⟨by omega, by omega⟩ hbb _ rfl hln)).mono fun e W' ⟨g1, g2⟩ => ⟨g1, hw.trans g2⟩)
  by_cases e7 : k = 7
  · subst e7
    have hsp := (shp_7 _ _ _ _ _ _ _ _).1 hshp
    have hk1 : kn = (rdS nk).length + 1 := hsp.2.2.2.2.2.1
    have ho : one ⟨⟨#[]⟩, [], 7, nm, mn, rdU lk, rdS nk⟩ (KT kk) (AT ak) = [40, 108, 101, 116, 32] ++ sepB [59, 32] (List.zipWith (fun n t => bs n ++ [32, 61, 32] ++ t) (rdS nk) (KT kk)) ++ [32, 105, 110, 32] ++ (KT kk).getD (rdS nk).length [] ++ [41] := by
      dsimp only [one]
      rw [if_neg (by decide), if_neg (by decide), if_neg (by decide), if_neg (by decide), if_neg (by decide), if_neg (by decide), if_neg (by decide), if_pos rfl]
    rw [ho] at hl ⊢
    have hln := hl
    rw [← List.length_append] at hln
    have hZ : l ++ [40, 108, 101, 116, 32] ++ sepB [59, 32] (zw (rdS nk) (KT kk)) ++ [32, 105, 110, 32] ++ (KT kk).getD (rdS nk).length [] ++ [41] = l ++ ([40, 108, 101, 116, 32] ++ sepB [59, 32] (List.zipWith (fun n t => bs n ++ [32, 61, 32] ++ t) (rdS nk) (KT kk)) ++ [32, 105, 110, 32] ++ (KT kk).getD (rdS nk).length [] ++ [41]) := by unfold zw; simp
    exact pt_go 103 db do_ b 7 W c0 (fun w => mw_7 _ w) ew_103 (fun W' => Wr b _ W W') (hWb ▸ ((wk_7 ⟨db, do_, .nil⟩ b m ih na nc (rdS nk) ka kn kc kk l Wb hat c4 c5 hsr hsp.2.2.2.2.1 (by omega) (by omega) h5 hs5 hgk ⟨by omega, by omega⟩ hbb _ rfl _ hZ hln)).mono fun e W' ⟨g1, g2⟩ => ⟨g1, hw.trans g2⟩)
  by_cases e8 : k = 8
  · subst e8
    have hsp := (shp_8 _ _ _ _ _ _ _ _).1 hshp
    have ho : one ⟨⟨#[]⟩, [], 8, nm, mn, rdU lk, rdS nk⟩ (KT kk) (AT ak) = [40, 99, 97, 115, 101, 32] ++ (KT kk).headD [] ++ [32, 111, 102, 32] ++ (if nm = ⟨#[]⟩ then [] else bs nm ++ [32]) ++ [123, 32] ++ sepB [59, 32] (AT ak ++ ((KT kk).drop 1).map (fun t => [95, 32, 45, 62, 32] ++ t)) ++ [32, 125, 41] := by
      dsimp only [one]
      rw [if_neg (by decide), if_neg (by decide), if_neg (by decide), if_neg (by decide), if_neg (by decide), if_neg (by decide), if_neg (by decide), if_neg (by decide)]
    rw [ho] at hl ⊢
    obtain ⟨NP, hNPe⟩ : ∃ NP, (if nm = ⟨#[]⟩ then [] else bs nm ++ [32]) = NP := ⟨_, rfl⟩
    rw [hNPe] at hl ⊢
    have hZ : l ++ ([40, 99, 97, 115, 101, 32] ++ (KT kk).headD [] ++ [32, 111, 102, 32] ++ NP ++ [123, 32] ++ sepB [59, 32] (AT ak ++ ((KT kk).drop 1).map (fun t => [95, 32, 45, 62, 32] ++ t)) ++ [32, 125, 41]) = (l ++ [40, 99, 97, 115, 101, 32] ++ (KT kk).headD [] ++ [32, 111, 102, 32] ++ NP) ++ [123, 32] ++ sepB [59, 32] (AT ak ++ ((KT kk).drop 1).map (fun t => [95, 32, 45, 62, 32] ++ t)) ++ [32, 125, 41] := by simp
    have hln := hl
    rw [← List.length_append, hZ, List.length_append] at hln
    rw [hZ]
    exact pt_go 106 db do_ b 8 W c0 (fun w => mw_8 _ w) ew_106 (fun W' => Wr b _ W W') (hWb ▸ ((wk_8 ⟨db, do_, .nil⟩ b m ih (by omega) nm ka kn kc kk aa an ac ak l Wb hat c1 c5 c6 hsp.2.2.2.1 (by have := hsp.2.2.2.2.1; rw [rdA_len an ak h6] at this; exact this) (by omega) h5 hs5 hgk h6 hs6 hga ⟨⟨by omega, by omega⟩, by omega, by omega⟩ hbb NP (by
      rw [← hNPe]
      by_cases hn : nm = ⟨#[]⟩
      · exact .inl ⟨(empty_iff nm).2 hn, if_pos hn⟩
      · exact .inr ⟨fun h => hn ((empty_iff nm).1 h), if_neg hn⟩) _ rfl _ rfl _ rfl hln)).mono fun e W' ⟨g1, g2⟩ => ⟨g1, hw.trans g2⟩)
  exact absurd hshp (shp_other _ _ _ e1 e2 e3 e4 e5 e6 e7 e8 e9 e10)

theorem wt_all (b : Nat) : ∀ m, m ≤ 16777216 → WtC b m
  | 0, _ => fun d _ _ hm hok => absurd (Fit.len hok.fit) (by have := d.x.len_le; show ¬ d.x.len = 7; omega)
  | m + 1, h => wt_step b m h (wt_all b m (by omega))

end Go.Proofs.Ytppfohpgcofkbaa

namespace Go.Proofs.Ytppfohpgcofkbaa
open Go.RowKit Go.Joins

set_option maxHeartbeats 2000000 in
set_option maxRecDepth 100000 in
theorem i_format (F : Fo) (W : World) (hf : Fit E F (E 3)) (hwt : F.wt ≤ 1048576) (hs : F.Subs W (fun c => c < W.heap.size)) :
    Calls Try.prog 7 #[.agg F.vals.toArray] W fun e W' => e = .returned (.string ⟨(fcT F).toArray⟩) ∧ Below W.heap.size W W' := by
  have hsz := (Fit.bounds E_len F (E 3) hf).2.2
  have hfl : F.len = 7 := Fit.len hf
  have hfx := fx_bound F hf
  have hsz16 : F.size ≤ 16777216 := by omega
  obtain ⟨V0, hV0⟩ : ∃ V, W.alloc (.cells F.vals.toArray 36) = V := ⟨_, rfl⟩
  have b0 : Below W.heap.size W V0 := by rw [← hV0]; exact below_alloc1 _ _
  have z0 : V0.heap.size = W.heap.size + 1 := by rw [← hV0]; simp
  have q0 : Bx V0 W.heap.size F.vals := by rw [← hV0]; exact Bx.new _ _ _
  have hlt : ∀ c, c < W.heap.size → c < V0.heap.size := fun c hc => Nat.lt_of_lt_of_le hc b0.size
  have hs0 := (hs.below b0 (fun c hc => hc)).mono hlt
  have HC1 := hide (callsIn_wide.1 (fault_in 5 (by decide) F V0 hf hs0 hsz16))
  have HC2 : Hid (∀ V, Below V0.heap.size V0 V → okC (rdK F) → Calls Try.prog 20 #[.pointer (some ⟨V.heap.size, 0, none⟩), .pointer (some ⟨W.heap.size, 0, none⟩)] (V.alloc (.cells #[.pointer none, .slice none 0 0] 55)) fun e W' => e = .returned (.tuple #[]) ∧ Wr V.heap.size ([] ++ fx F) (V.alloc (.cells #[.pointer none, .slice none 0 0] 55)) W') := fun V bV hg => by
    have bA := bV.trans ((below_alloc1 V (.cells #[.pointer none, .slice none 0 0] 55)).mono bV.size)
    exact wt_all V.heap.size F.size hsz16 ⟨W.heap.size, 0, F⟩ [] _ (Nat.le_refl _) ⟨hf, (fun j v hj => by rw [Nat.zero_add]; exact (q0.below bA).cel j v hj), (hs0.below bA (fun _ hc => hc)).mono (fun c hc => Nat.lt_of_lt_of_le hc bV.size), (by show W.heap.size < V.heap.size; have := bV.size; omega)⟩ hg.2 hwt (Lib.IsBuilderF.of (Lib.fresh_isBuilder 55 5 V)) (by simp only [List.length_nil]; omega)
  have HQ0 : Hid (∀ V, Below V0.heap.size V0 V → Bx V W.heap.size F.vals) := fun V bV => q0.below bV
  have HBW : Hid (∀ V, Below V0.heap.size V0 V → Below W.heap.size W V) := fun V k => b0.trans (k.mono b0.size)
  have HYES : Hid (okC (rdK F) → fcT F = fx F) := fun h => by unfold fcT; rw [if_pos h]
  have HNO : Hid (¬ okC (rdK F) → fcT F = []) := fun h => by unfold fcT; rw [if_neg h]
  obtain ⟨k, nm, mn, la, ln, lc, lk, na, nn, nc, nk, ka, kn, kc, kk, aa, an, ac, ak, hxe, -⟩ := core_open hf
  obtain ⟨T, hT⟩ : ∃ T, rdK F = T := ⟨_, rfl⟩
  obtain ⟨Y, hY⟩ : ∃ Y, fx F = Y := ⟨_, rfl⟩
  obtain ⟨Z, hZ⟩ : ∃ Z, fcT F = Z := ⟨_, rfl⟩
  rw [hT] at HC1 HC2 HYES HNO
  rw [hY] at HC2 HYES
  rw [hZ] at HYES HNO ⊢
  rw [hxe] at hV0 q0 HC1 HQ0 ⊢
  simp only [Fo.vals, List.nil_append] at hV0 q0 HC1 HC2 HQ0 ⊢
  have c0 := q0.cel 0 _ rfl
  have c1 := q0.cel 1 _ rfl
  have c2 := q0.cel 2 _ rfl
  have c3 := q0.cel 3 _ rfl
  have c4 := q0.cel 4 _ rfl
  have c5 := q0.cel 5 _ rfl
  have c6 := q0.cel 6 _ rfl
  have HV0 := hide hV0
  clear hV0 b0 q0 hf hwt hs hs0 hxe hT hY hZ hlt hsz hfl hfx hsz16 z0
  go_enter Try.func7, Try.ntmps7
  go_upto_region 1 with fail
  rw [HV0.out]
  clear HV0
  go_wp2_with fail
  refine HC1.out.mono ?_
  clear HC1 c0 c1 c2 c3 c4 c5 c6
  rintro e w1 ⟨cd, rfl, hcd, b1⟩
  have HB1 := hide b1
  by_cases h0 : cd = 0
  · have HOK : Hid (okC T) := hcd.1 h0
    subst h0
    have HC3 := hide (HC2.out w1 b1 HOK.out)
    have HE := hide (HYES.out HOK.out)
    clear hcd b1 HC2 HYES HNO HOK
    go_wp2_with fail
    refine HC3.out.mono ?_
    rintro e w2 ⟨rfl, h2⟩
    have HS2 := hide (str_of 55 w1.heap.size w1.heap.size Y w2 h2.is (Nat.le_of_lt (isb_lt h2.is)))
    have HBE : Hid (Below w1.heap.size w1 w2) := (below_alloc1 w1 _).trans h2.low
    clear HC3 h2
    go_wp2_with fail
    refine HS2.out.mono ?_
    rintro e w3 ⟨rfl, b3⟩
    have HBF : Hid (Below W.heap.size W w3) := (HBW.out w1 HB1.out).trans ((HBE.out.trans b3).mono (HBW.out w1 HB1.out).size)
    clear HS2 b3
    go_wp2_with fail
    go_ret
    exact ⟨by rw [HE.out]; rfl, HBF.out⟩
  · have h0' : (cd != 0) = true := by rw [bne_iff_ne]; exact h0
    have HE := hide (HNO.out (fun h => h0 (hcd.2 h)))
    have HBE : Hid (Below W.heap.size W w1) := HBW.out w1 b1
    clear hcd b1 HC2 HYES HNO
    go_wp2_with fail
    go_ret
    exact ⟨by rw [HE.out]; rfl, HBE.out⟩

end Go.Proofs.Ytppfohpgcofkbaa
