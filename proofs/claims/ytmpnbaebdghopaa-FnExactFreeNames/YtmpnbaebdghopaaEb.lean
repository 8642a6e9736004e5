import Derived.Test.YtmpnbaebdghopaaEa
namespace Go.Proofs.Ytmpnbaebdghopaa
open Go.RowKit Go.Joins

theorem mg_0 (p : Value) (w : World) : (method 318 121 (.agg #[p]) "loop.example/g00017/impl.goThrough").run Try.prog w = .ok (117, .agg #[p]) w := by kernel_rfl
theorem mg_2 (p : Value) (w : World) : (method 318 124 (.agg #[p]) "loop.example/g00017/impl.goThrough").run Try.prog w = .ok (117, .agg #[p]) w := by kernel_rfl
theorem mg_3 (p : Value) (w : World) : (method 318 125 (.agg #[p]) "loop.example/g00017/impl.goThrough").run Try.prog w = .ok (117, .agg #[p]) w := by kernel_rfl
theorem mg_4 (p : Value) (w : World) : (method 318 126 (.agg #[p]) "loop.example/g00017/impl.goThrough").run Try.prog w = .ok (117, .agg #[p]) w := by kernel_rfl
theorem mg_5 (p : Value) (w : World) : (method 318 127 (.agg #[p]) "loop.example/g00017/impl.goThrough").run Try.prog w = .ok (117, .agg #[p]) w := by kernel_rfl
theorem mg_6 (p : Value) (w : World) : (method 318 128 (.agg #[p]) "loop.example/g00017/impl.goThrough").run Try.prog w = .ok (117, .agg #[p]) w := by kernel_rfl
theorem mg_7 (p : Value) (w : World) : (method 318 129 (.agg #[p]) "loop.example/g00017/impl.goThrough").run Try.prog w = .ok (117, .agg #[p]) w := by kernel_rfl
theorem mg_8 (p : Value) (w : World) : (method 318 130 (.agg #[p]) "loop.example/g00017/impl.goThrough").run Try.prog w = .ok (136, .agg #[p]) w := by kernel_rfl
theorem mg_9 (p : Value) (w : World) : (method 318 131 (.agg #[p]) "loop.example/g00017/impl.goThrough").run Try.prog w = .ok (117, .agg #[p]) w := by kernel_rfl
theorem mg_10 (p : Value) (w : World) : (method 318 132 (.agg #[p]) "loop.example/g00017/impl.goThrough").run Try.prog w = .ok (117, .agg #[p]) w := by kernel_rfl

theorem mg_any (k : Int) (e1 : ¬ k = 1) (e8 : ¬ k = 8) (p : Value) (w : World) : (method 318 (tyK k) (.agg #[p]) "loop.example/g00017/impl.goThrough").run Try.prog w = .ok (117, .agg #[p]) w := by
  unfold tyK
  rw [if_neg e1]
  by_cases e2 : k = 2
  · rw [if_pos e2]; exact mg_2 p w
  by_cases e3 : k = 3
  · rw [if_neg e2, if_pos e3]; exact mg_3 p w
  by_cases e4 : k = 4
  · rw [if_neg e2, if_neg e3, if_pos e4]; exact mg_4 p w
  by_cases e5 : k = 5
  · rw [if_neg e2, if_neg e3, if_neg e4, if_pos e5]; exact mg_5 p w
  by_cases e6 : k = 6
  · rw [if_neg e2, if_neg e3, if_neg e4, if_neg e5, if_pos e6]; exact mg_6 p w
  by_cases e7 : k = 7
  · rw [if_neg e2, if_neg e3, if_neg e4, if_neg e5, if_neg e6, if_pos e7]; exact mg_7 p w
  by_cases e9 : k = 9
  · rw [if_neg e2, if_neg e3, if_neg e4, if_neg e5, if_neg e6, if_neg e7, if_neg e8, if_pos e9]; exact mg_9 p w
  by_cases e10 : k = 10
  · rw [if_neg e2, if_neg e3, if_neg e4, if_neg e5, if_neg e6, if_neg e7, if_neg e8, if_neg e9, if_pos e10]; exact mg_10 p w
  rw [if_neg e2, if_neg e3, if_neg e4, if_neg e5, if_neg e6, if_neg e7, if_neg e8, if_neg e9, if_neg e10]
  exact mg_0 p w

set_option maxHeartbeats 2000000 in
set_option maxRecDepth 100000 in
/-- look at a term of another kind than CVar and CCase: what its goThrough does. -/
theorem lk_go (db do_ : Nat) (fp : Value) (k : Int) (e1 : ¬ k = 1) (e8 : ¬ k = 8) (W : World) (c0 : W.cell? ⟨db, do_, none⟩ = some (.int .i64 k)) (R : World → Prop)
    (h : Calls Try.prog 117 #[.agg #[.pointer (some ⟨db, do_, none⟩)], .iface 148 fp] (W.alloc (.cells #[.pointer (some ⟨db, do_, none⟩)] 121)) fun e W' => (∃ v, e = .returned v) ∧ R W') :
    Calls Try.prog 43 #[fp, .pointer (some ⟨db, do_, none⟩)] W fun e W' => (∃ v, e = .returned v) ∧ R W' := by
  have HT := hide (i_term ⟨db, do_, .nil⟩ W k c0 (block_lt_of_cell c0))
  have HME := mg_any k e1 e8 (.pointer (some ⟨db, do_, none⟩)) (W.alloc (.cells #[.pointer (some ⟨db, do_, none⟩)] 121))
  have hne : (k != 1) = true := by rw [bne_iff_ne]; exact e1
  simp only [Nd.ptr] at HT
  have HH := hide h
  clear h e1 e8
  go_enter Try.func43, Try.ntmps43
  go_wp2_with fail
  refine HT.out.mono ?_
  clear HT
  rintro e w1 ⟨rfl, rfl⟩
  go_wp2_with fail
  refine HH.out.mono ?_
  rintro e w2 ⟨⟨v, rfl⟩, hR⟩
  have HR := hide hR
  clear hR HH HME
  go_wp2_with fail
  refine bodyPost_ret (results_none rfl _ _ _) rfl ?_
  exact ⟨⟨_, rfl⟩, HR.out⟩

set_option maxHeartbeats 2000000 in
set_option maxRecDepth 100000 in
/-- look at a CCase. -/
theorem lk_go8 (db do_ : Nat) (fp : Value) (W : World) (c0 : W.cell? ⟨db, do_, none⟩ = some (.int .i64 8)) (R : World → Prop)
    (h : Calls Try.prog 136 #[.agg #[.pointer (some ⟨db, do_, none⟩)], .iface 148 fp] (W.alloc (.cells #[.pointer (some ⟨db, do_, none⟩)] 121)) fun e W' => (∃ v, e = .returned v) ∧ R W') :
    Calls Try.prog 43 #[fp, .pointer (some ⟨db, do_, none⟩)] W fun e W' => (∃ v, e = .returned v) ∧ R W' := by
  have HT : Hid (Calls Try.prog 34 #[.pointer (some ⟨db, do_, none⟩)] W fun e W' => e = .returned (.iface 130 (.agg #[.pointer (some ⟨db, do_, none⟩)])) ∧ W' = W.alloc (.cells #[.pointer (some ⟨db, do_, none⟩)] 121)) := t_8 ⟨db, do_, .nil⟩ W c0 (block_lt_of_cell c0)
  have HME := mg_8 (.pointer (some ⟨db, do_, none⟩)) (W.alloc (.cells #[.pointer (some ⟨db, do_, none⟩)] 121))
  have HH := hide h
  clear h
  go_enter Try.func43, Try.ntmps43
  go_wp2_with fail
  refine HT.out.mono ?_
  clear HT
  rintro e w1 ⟨rfl, rfl⟩
  go_wp2_with fail
  refine HH.out.mono ?_
  rintro e w2 ⟨⟨v, rfl⟩, hR⟩
  have HR := hide hR
  clear hR HH HME
  go_wp2_with fail
  refine bodyPost_ret (results_none rfl _ _ _) rfl ?_
  exact ⟨⟨_, rfl⟩, HR.out⟩

theorem adds_mem {M : List ByteArray} {x : ByteArray} (h : x ∈ M) : adds M [x] = M := by
  unfold adds
  rw [if_pos h]
  rfl

theorem adds_new {M : List ByteArray} {x : ByteArray} (h : ¬ x ∈ M) : adds M [x] = M ++ [x] := by
  unfold adds
  rw [if_neg h]
  rfl

open Classical in
theorem lk_step (m : Nat) (ih : LkC m) : LkC (m + 1) := by
  intro B0 fb hb kb f B M n Bd ob d W hm hM hBd hn hok hgd hF hf hfB
  have hat := hok.at_
  have hcel := hok.cel
  have hsub := hok.subs
  have hfit := hok.fit
  obtain ⟨b, o, x⟩ := d
  simp only at hat hcel hsub hfit hm hM hBd hn hgd ⊢
  clear hok
  obtain ⟨k, nm, mn, la, ln, lc, lk, na, nn, nc, nk, ka, kn, kc, kk, aa, an, ac, ak, rfl, -, hnm, h3, h4, h5, h6⟩ := core_open hfit
  obtain ⟨hs3, hs4, hs5, hs6, -⟩ := hsub
  rw [rdK_nd, rdK_nil] at hgd ⊢
  obtain ⟨hshp, hgk, hga, -⟩ := hgd
  rw [rdK_len kn kk h5] at hshp
  simp only [Fo.vals] at hcel
  simp only [Fo.size, Fo.wt, textSize] at hm hM hBd hn ⊢
  have c0 : W.cell? ⟨b, o, none⟩ = some (.int .i64 k) := hcel 0 _ rfl
  have c1 : W.cell? ⟨b, o + 1, none⟩ = some (.string nm) := hcel 1 _ rfl
  have c4 : W.cell? ⟨b, o + 4, none⟩ = some (.slice na nn nc) := hcel 4 _ rfl
  have c5 : W.cell? ⟨b, o + 5, none⟩ = some (.slice ka kn kc) := hcel 5 _ rfl
  have c6 : W.cell? ⟨b, o + 6, none⟩ = some (.slice aa an ac) := hcel 6 _ rfl
  have hocc : ((Tm.nd ⟨⟨#[]⟩, [], k, nm, mn, rdU lk, rdS nk⟩ (rdK kk) (rdA ak) .nil).occ B B).flatten = ow k nm (rdS nk) (fun X Y => (rdK kk).occ X Y) (fun X => (rdA ak).occ X X) B := by
    simp only [Tm.occ, List.flatten_cons, List.flatten_nil, List.append_nil]
  rw [hocc]
  have hB0 : B0 ≤ W.heap.size := by have := hF.lo.1; have := hF.fb_lt; omega
  have k1 : Below W.heap.size W (W.alloc (.cells #[.pointer (some ⟨b, o, none⟩)] 121)) := below_alloc1 _ _
  have hlz : ∀ {n w : Nat} {F : Fo} {k' : Nat}, Fit E F (rep (E k') n) → (E k').length = w → 0 < w → n ≤ F.size := fun {n w F k'} h e hw => by
    have e1 := Fit.len h
    rw [rep_len, e] at e1
    have := F.len_le
    have := Nat.le_mul_of_pos_right n hw
    omega
  have z4 := hlz h4 rfl (by decide)
  have z5 := hlz h5 rfl (by decide)
  simp only [Nd.ptr]
  by_cases e1 : k = 1
  · subst e1
    obtain ⟨-, -, -, -, hne, -⟩ := (shp_1 _ _ _ _ _ _ _ _).1 hshp
    have ho : ow 1 nm (rdS nk) (fun X Y => (rdK kk).occ X Y) (fun X => (rdA ak).occ X X) B = (if nm ∈ B then [] else [nm]) := by
      dsimp only [ow]
      rw [if_pos rfl]
    rw [ho]
    clear ho hocc
    have hsz : nm.size ≤ 1048576 := by omega
    have hbn := hfB nm hne
    by_cases hM1 : nm ∈ M
    · have e : adds M (if nm ∈ B then [] else [nm]) = M := by
        split
        · rfl
        · exact adds_mem hM1
      rw [e]
      refine (lk_known B0 fb hb kb f M n ob b o nm W hsz hM1 c0 c1 hF).mono ?_
      rintro e W' ⟨hv, hT⟩
      exact ⟨hv, hT.le (by omega)⟩
    · by_cases hB1 : nm ∈ B
      · rw [if_pos hB1]
        refine (lk_bound B0 fb hb kb f M n ob b o nm W hsz hM1 (hbn.2 hB1) c0 c1 hF).mono ?_
        rintro e W' ⟨hv, hT⟩
        exact ⟨hv, hT.le (by omega)⟩
      · rw [if_neg hB1, adds_new hM1]
        have h0 : f nm = 0 := by
          have h1 := (hf nm).1
          have h2 : ¬ 0 < f nm := fun h => hB1 (hbn.1 h)
          omega
        refine (lk_new B0 fb hb kb f M n ob b o nm W hsz hM1 h0 (by omega) (by omega) c0 c1 (hF.off hat) hF).mono ?_
        rintro e W' ⟨hv, hT⟩
        exact ⟨hv, hT.le (by omega)⟩
  by_cases e8 : k = 8
  · subst e8
    have hsp := (shp_8 _ _ _ _ _ _ _ _).1 hshp
    have hk0 : 0 < kn := by rcases hsp.2.2.2.1 with h | h <;> omega
    have ho : ow 8 nm (rdS nk) (fun X Y => (rdK kk).occ X Y) (fun X => (rdA ak).occ X X) B = ((rdK kk).occ B (inB nm B)).headD [] ++ (((rdA ak).occ (inB nm B) (inB nm B)).flatten ++ (((rdK kk).occ B (inB nm B)).drop 1).flatten) := by
      dsimp only [ow]
      rw [if_neg (by decide), if_neg (by decide), if_pos rfl]
    rw [ho]
    refine lk_go8 b o _ W c0 _ ?_
    refine (go_136 m ih B0 fb hb kb b o f B M nm n Bd ob ka aa kn kc an ac kk ak _ ⟨⟨by omega, by omega⟩, by omega, by omega⟩ (by omega) (by omega) (by omega) h5 (Fo.Sub.below k1 (fun c hc => by omega) hs5) h6 (Fo.Sub.below k1 (fun c hc => by omega) hs6) hk0 ⟨by omega, hs5.1, hs5.2.1⟩ ⟨hgk, hga⟩ (hF.below k1) hf hfB hnm ((k1.cell (p := ⟨b, o + 1, none⟩) (by show b < _; omega)).trans c1) ((k1.cell (p := ⟨b, o + 5, none⟩) (by show b < _; omega)).trans c5) ((k1.cell (p := ⟨b, o + 6, none⟩) (by show b < _; omega)).trans c6) hat).mono ?_
    rintro e W' ⟨hv, hT⟩
    exact ⟨hv, (hT.start k1).le (by omega)⟩
  · have ho : ow k nm (rdS nk) (fun X Y => (rdK kk).occ X Y) (fun X => (rdA ak).occ X X) B = ((rdK kk).occ (B ++ rdS nk) (B ++ rdS nk)).flatten := by
      dsimp only [ow]
      rw [if_neg e1]
      split
      · rfl
      · rename_i h67
        have hns : rdS nk = [] := by
          rcases hshp.2.2.1 with h | h | h
          · exact absurd (.inl h) h67
          · exact absurd (.inr h) h67
          · exact h
        rw [hns, List.append_nil]
    rw [ho]
    obtain ⟨hsr, hsl⟩ := sr_of h4 hs4
    refine lk_go b o _ k e1 e8 W c0 _ ?_
    refine (go_117 m ih B0 fb hb kb b o f B M (rdS nk) n Bd ob na ka nc kn kc kk _ ⟨by omega, by omega⟩ (by omega) (by omega) (by omega) (by omega) h5 (Fo.Sub.below k1 (fun c hc => by omega) hs5) hgk (hF.below k1) hf hfB (hsr.below k1 (fun c hc => by omega)) (rdS_sz _ _ h4) ?_ ((k1.cell (p := ⟨b, o + 5, none⟩) (by show b < _; omega)).trans c5) hat).mono ?_
    · rw [hsl]
      exact (k1.cell (p := ⟨b, o + 4, none⟩) (by show b < _; omega)).trans c4
    · rintro e W' ⟨hv, hT⟩
      exact ⟨hv, (hT.start k1).le (by omega)⟩

theorem lk_all : ∀ m, LkC m
  | 0 => fun _ _ _ _ _ _ _ _ _ _ d _ hm _ _ _ hok => absurd (Fit.len hok.fit) (by have := d.x.len_le; show ¬ d.x.len = 7; omega)
  | m + 1 => lk_step m (lk_all m)

end Go.Proofs.Ytmpnbaebdghopaa
