import Derived.Test.YtmpnbaebdghopaaDx
namespace Go.Proofs.Ytmpnbaebdghopaa
open Go.RowKit Go.Joins

theorem incF_inB {f : ByteArray → Int} {B : List ByteArray} (nm : ByteArray) (h0 : ∀ t, 0 ≤ f t) (h : ∀ t, ¬ t = ⟨#[]⟩ → (0 < f t ↔ t ∈ B)) : ∀ t, ¬ t = ⟨#[]⟩ → (0 < incF f [nm] t ↔ t ∈ inB nm B) := fun t ht => by
  rw [incF_mem (L := [nm]) h0 h t ht]
  unfold inB
  split
  · rename_i e
    rw [List.mem_append]
    constructor
    · rintro (h | h)
      · exact h
      · rw [List.mem_singleton] at h
        exact absurd (h.trans e) ht
    · exact .inl
  · exact Iff.rfl

theorem FT.join {B0 fb hb kb : Nat} {f : ByteArray → Int} {M2 : List ByteArray} {n2 : Nat} {ob ob' : Option Nat} {A B C : World} (hk : Kept (Off fb hb kb ob) A B) (ho : ob' = ob ∨ ∃ b, ob' = some b ∧ A.heap.size ≤ b) (h : FT B0 fb hb kb f M2 n2 ob' B C) : FT B0 fb hb kb f M2 n2 ob A C := by
  obtain ⟨⟨m2, ob2, hm2, ho2, hs2⟩, hk2⟩ := h
  refine ⟨⟨m2, ob2, hm2, ?_, hs2⟩, hk.trans2 hk2 (fun b hb' hx => Off.next hx hb' ho)⟩
  rcases ho2 with e | ⟨b, e, hb'⟩
  · rw [e]; exact ho
  · exact .inr ⟨b, e, Nat.le_trans hk.size hb'⟩

theorem FT.le {B0 fb hb kb : Nat} {f : ByteArray → Int} {M2 : List ByteArray} {n2 n3 : Nat} {ob : Option Nat} {A B : World} (h : FT B0 fb hb kb f M2 n2 ob A B) (hn : n2 ≤ n3) : FT B0 fb hb kb f M2 n3 ob A B := by
  obtain ⟨⟨m2, ob2, hm2, ho2, hs2⟩, hk2⟩ := h
  exact ⟨⟨m2, ob2, Nat.le_trans hm2 hn, ho2, hs2⟩, hk2⟩

set_option maxHeartbeats 4000000 in
set_option maxRecDepth 100000 in
/-- goThrough of a CCase. -/
theorem go_136 (m : Nat) (ih : LkC m) (B0 fb hb kb db do_ : Nat) (f : ByteArray → Int) (B M : List ByteArray) (nm : ByteArray) (n Bd : Nat) (ob : Option Nat) (ka aa : Option Addr) (kn kc an ac : Nat) (kk ak : Fo) (W : World) (hm : (kk.size ≤ m ∧ ak.size ≤ m) ∧ kk.wt ≤ 1048576 ∧ ak.wt ≤ 1048576) (hM : ak.size + kk.size + M.length ≤ 16777216) (hBd : Bd + 1 + ak.size + kk.size ≤ 1099511627776) (hn : n + 2 + 4 * ak.size + 4 * kk.size ≤ 1099511627776)
    (h5f : Fit E kk (rep (E 3) kn)) (h5s : kk.Sub W (fun b => b < B0) ka kn kc) (h6f : Fit E ak (rep (E 2) an)) (h6s : ak.Sub W (fun b => b < B0) aa an ac) (hk0 : 0 < kn) (hkx : kn ≤ 16777216 ∧ kn ≤ kc ∧ kc ≤ 9223372036854775807) (hgd : (rdK kk).good ∧ (rdA ak).good) (hF : FS B0 fb hb kb f M n ob W) (hf : ∀ t, 0 ≤ f t ∧ f t ≤ Bd) (hfB : ∀ t, ¬ t = ⟨#[]⟩ → (0 < f t ↔ t ∈ B)) (hsz : nm.size ≤ maxLen)
    (h1 : W.cell? ⟨db, do_ + 1, none⟩ = some (.string nm)) (h5 : W.cell? ⟨db, do_ + 5, none⟩ = some (.slice ka kn kc)) (h6 : W.cell? ⟨db, do_ + 6, none⟩ = some (.slice aa an ac)) (hdb : db < B0) :
    Calls Try.prog 136 #[.agg #[.pointer (some ⟨db, do_, none⟩)], .iface 148 (.pointer (some ⟨fb, 0, none⟩))] W fun e W' => (∃ v, e = .returned v) ∧ FT B0 fb hb kb f (adds M (((rdK kk).occ B (inB nm B)).headD [] ++ (((rdA ak).occ (inB nm B) (inB nm B)).flatten ++ (((rdK kk).occ B (inB nm B)).drop 1).flatten))) (n + 2 + 4 * ak.size + 4 * kk.size) ob W W' := by
  have hB0 : B0 ≤ W.heap.size := by have := hF.lo.1; have := hF.fb_lt; omega
  have hlh : hb < W.heap.size := hF.hm.lt
  have hlk : kb < W.heap.size := hF.km.lt
  have hlf := hF.fb_lt
  have hlo : ∀ b, ob = some b → b < W.heap.size := fun b e => (hF.ob_lt b e).2
  have hl2 := hF.lo.2.1
  obtain ⟨x, q, k0, k1, rfl, hx, rfl, hb', hc, hxs, hR1⟩ := (Rd.start h5f h5s).next hk0 (by decide)
  rw [occK_app hx, List.headD_cons, List.drop_succ_cons, List.drop_zero]
  obtain ⟨hg5, hg6⟩ := hgd
  rw [goodK_app hx] at hg5
  rw [Fo.app_size, Fo.app_wt] at hm
  rw [Fo.app_size] at hM hBd hn ⊢
  obtain ⟨k', rfl⟩ : ∃ k', kn = k' + 1 := ⟨kn - 1, by omega⟩
  have k2 : Below W.heap.size W ((W.alloc (.cells #[.pointer (some ⟨db, do_, none⟩)] 130)).alloc (.cells #[.iface 148 (.pointer (some ⟨fb, 0, none⟩))] 209)).drew := (below_alloc2 W _ _).drew
  obtain ⟨V, hV⟩ : ∃ V, ((W.alloc (.cells #[.pointer (some ⟨db, do_, none⟩)] 130)).alloc (.cells #[.iface 148 (.pointer (some ⟨fb, 0, none⟩))] 209)).drew = V := ⟨_, rfl⟩
  have zV : V.heap.size = W.heap.size + 2 := by rw [← hV]; simp
  have vc : V.cell? ⟨W.heap.size, 0, none⟩ = some (.pointer (some ⟨db, do_, none⟩)) := by
    rw [← hV]
    have k := (below_alloc1 (W.alloc (.cells #[.pointer (some ⟨db, do_, none⟩)] 130)) (.cells #[.iface 148 (.pointer (some ⟨fb, 0, none⟩))] 209)).drew
    exact (k.cell (p := ⟨W.heap.size, 0, none⟩) (by simp)).trans (by simp)
  have vv : V.cell? ⟨W.heap.size + 1, 0, none⟩ = some (.iface 148 (.pointer (some ⟨fb, 0, none⟩))) := by
    rw [← hV]
    have e : W.heap.size + 1 = (W.alloc (.cells #[.pointer (some ⟨db, do_, none⟩)] 130)).heap.size := by simp
    rw [e]
    simp
  rw [hV] at k2
  have v1 := (k2.cell (p := ⟨db, do_ + 1, none⟩) (by show db < _; omega)).trans h1
  have v5 := (k2.cell (p := ⟨db, do_ + 5, none⟩) (by show db < _; omega)).trans h5
  have v6 := (k2.cell (p := ⟨db, do_ + 6, none⟩) (by show db < _; omega)).trans h6
  have oc : Off fb hb kb ob W.heap.size := ⟨by omega, by omega, by omega, fun e => by have := hlo _ e; omega⟩
  have ov : Off fb hb kb ob (W.heap.size + 1) := ⟨by omega, by omega, by omega, fun e => by have := hlo _ e; omega⟩
  have od : Off fb hb kb ob db := hF.off hdb
  have hFV := hF.below k2
  have hok : Nd.Ok V (fun b => b < B0) ⟨k0, k1, x⟩ := Nd.Ok.kept (A := W) ⟨hx, by simpa using hc, hxs, hb'⟩ (kt (S := fun _ => True) k2) (fun b hb => ⟨trivial, by omega⟩)
  have HCA : Hid (Calls Try.prog 43 #[.pointer (some ⟨fb, 0, none⟩), .pointer (some ⟨k0, k1, none⟩)] V fun e W' => (∃ v, e = .returned v) ∧ FT B0 fb hb kb f (adds M ((rdK x).occ B B).flatten) (n + 4 * x.size) ob V W') :=
    ih B0 fb hb kb f B M n Bd ob ⟨k0, k1, x⟩ V ⟨by show x.size ≤ m; omega, by show x.wt ≤ _; omega⟩ (by show x.size + _ ≤ _; omega) (by show Bd + x.size ≤ _; omega) (by show n + 4 * x.size ≤ _; omega) hok hg5.1 hFV hf hfB
  -- what is left alone by the finder
  have HKV : Hid (∀ w, Kept (Off fb hb kb ob) V w → w.cell? ⟨W.heap.size + 1, 0, none⟩ = some (.iface 148 (.pointer (some ⟨fb, 0, none⟩))) ∧ w.cell? ⟨W.heap.size, 0, none⟩ = some (.pointer (some ⟨db, do_, none⟩)) ∧ w.cell? ⟨db, do_ + 5, none⟩ = some (.slice (some ⟨k0, k1, none⟩) (k' + 1) kc)) := fun w k =>
    ⟨(k.cell (p := ⟨W.heap.size + 1, 0, none⟩) (by show W.heap.size + 1 < _; omega) ov).trans vv, (k.cell (p := ⟨W.heap.size, 0, none⟩) (by show W.heap.size < _; omega) oc).trans vc, (k.cell (p := ⟨db, do_ + 5, none⟩) (by show db < _; omega) od).trans v5⟩
  have HKN : Hid (∀ w, Kept (Off fb hb kb ob) V w → w.cell? ⟨W.heap.size + 1, 0, none⟩ = some (.iface 148 (.pointer (some ⟨fb, 0, none⟩))) ∧ w.cell? ⟨W.heap.size, 0, none⟩ = some (.pointer (some ⟨db, do_, none⟩)) ∧ w.cell? ⟨db, do_ + 1, none⟩ = some (.string nm)) := fun w k =>
    ⟨(k.cell (p := ⟨W.heap.size + 1, 0, none⟩) (by show W.heap.size + 1 < _; omega) ov).trans vv, (k.cell (p := ⟨W.heap.size, 0, none⟩) (by show W.heap.size < _; omega) oc).trans vc, (k.cell (p := ⟨db, do_ + 1, none⟩) (by show db < _; omega) od).trans v1⟩
  -- the second call
  have HC2 : Hid (∀ w9 : World, FT B0 fb hb kb f (adds M ((rdK x).occ B B).flatten) (n + 4 * x.size) ob V w9 → Calls Try.prog 145 #[.pointer (some ⟨fb, 0, none⟩), .slice (some ⟨w9.heap.size, 0, none⟩) 1 1, .func (.func 139) #[] #[.pointer (some ⟨W.heap.size, 0, none⟩), .pointer (some ⟨W.heap.size + 1, 0, none⟩)]] (w9.alloc (.cells #[.string nm] 9)).drew (fun e W3 => (∃ v, e = .returned v) ∧ FT B0 fb hb kb f (adds M (((rdK x).occ B B).flatten ++ (((rdA ak).occ (inB nm B) (inB nm B)).flatten ++ ((rdK q).occ (inB nm B) (inB nm B)).flatten))) (n + 2 + 4 * ak.size + 4 * (x.size + q.size)) ob V W3)) := fun w9 hT => by
    obtain ⟨⟨n1, o1, hn1, ho, hs⟩, hk9⟩ := hT
    have ka : Below w9.heap.size w9 (w9.alloc (.cells #[.string nm] 9)).drew := (below_alloc1 _ _).drew
    have hbl : (w9.alloc (.cells #[.string nm] 9)).drew.heap[w9.heap.size]? = some (.cells #[.string nm] 9) := (MapKept.heap_alloc w9 _).1
    obtain ⟨V2, hV2⟩ : ∃ V2, (w9.alloc (.cells #[.string nm] 9)).drew = V2 := ⟨_, rfl⟩
    have z2 : V2.heap.size = w9.heap.size + 1 := by rw [← hV2]; simp
    rw [hV2] at ka hbl ⊢
    have zk := hk9.size
    have hF2 := hs.below ka
    have hlh2 : hb < w9.heap.size := hs.hm.lt
    have hlk2 : kb < w9.heap.size := hs.km.lt
    have hlf2 := hs.fb_lt
    have hlo2 : ∀ b, o1 = some b → b < w9.heap.size := fun b e => (hs.ob_lt b e).2
    have oc2 : Off fb hb kb o1 W.heap.size := Off.next (W := V) oc (by omega) ho
    have ov2 : Off fb hb kb o1 (W.heap.size + 1) := Off.next (W := V) ov (by omega) ho
    have od2 : Off fb hb kb o1 db := Off.next (W := V) od (by omega) ho
    have on2 : Off fb hb kb o1 w9.heap.size := ⟨by omega, by omega, by omega, fun e => by have := hlo2 _ e; omega⟩
    have kw : Kept (fun b => b < B0) W w9 := (Kept.of_below (S := fun b => b < B0) k2 (fun b hb2 _ => hb2)).trans (hk9.mono (fun b _ hb2 => hF.off hb2))
    have ad := adds_len ((rdK x).occ B B).flatten M
    have al := occK_le x B B
    have hMl : (adds M ((rdK x).occ B B).flatten).length ≤ M.length + x.size := by omega
    have hC : Calls Try.prog 145 #[.pointer (some ⟨fb, 0, none⟩), .slice (some ⟨w9.heap.size, 0, none⟩) [nm].length 1, .func (.func 139) #[] #[.pointer (some ⟨W.heap.size, 0, none⟩), .pointer (some ⟨W.heap.size + 1, 0, none⟩)]] V2 (fun e W3 => (∃ v, e = .returned v) ∧ FT B0 fb hb kb f (adds (adds M ((rdK x).occ B B).flatten) (((rdA ak).occ (inB nm B) (inB nm B)).flatten ++ ((rdK q).occ (inB nm B) (inB nm B)).flatten)) (n1 + 1 + 4 * ak.size + 4 * q.size + [nm].length) o1 V2 W3) := by
      refine reach_fs 139 _ (enters_of Try.func139 (by kernel_rfl) rfl) B0 fb hb kb f (adds M ((rdK x).occ B B).flatten) _ n1 (n1 + 1 + 4 * ak.size + 4 * q.size) Bd o1 (some ⟨w9.heap.size, 0, none⟩) 1 [nm] V2 hF2 hf ⟨by omega, by simp, by omega, by omega⟩ ?_ (fun y hy => by rw [List.mem_singleton] at hy; rw [hy]; exact hsz) (fun Wx hk hFx => ?_)
      · have h := sr_one hbl
        exact ⟨h.le, h.mx, fun _ => ⟨w9.heap.size, 0, rfl, ⟨on2, by omega⟩, by obtain ⟨b, o, e, -, hcc⟩ := h.at_ (by simp); cases e; exact hcc⟩⟩
      · have ke : Kept (fun b => b < B0) W Wx := (kw.trans (Kept.of_below (S := fun b => b < B0) ka (fun b hb2 _ => hb2))).trans (hk.mono (fun b _ hb2 => by show b ≠ hb; have hb3 : b < B0 := hb2; omega))
        have cx : ∀ p : Nat, ∀ j : Nat, Off fb hb kb o1 p → p < w9.heap.size → Wx.cell? ⟨p, j, none⟩ = w9.cell? ⟨p, j, none⟩ := fun p j hp hl => (hk.cell (p := ⟨p, j, none⟩) (by show p < _; omega) hp.2.1).trans (ka.cell (p := ⟨p, j, none⟩) hl)
        obtain ⟨y1, y2, y5⟩ := HKV.out w9 hk9
        refine go_139 m ih B0 fb hb kb W.heap.size (W.heap.size + 1) db do_ (incF f [nm]) (inB nm B) (adds M ((rdK x).occ B B).flatten) (n1 + 1) (Bd + 1) o1 (some ⟨k0, k1, none⟩) aa (k' + 1) kc an ac q ak Wx ⟨⟨by omega, by omega⟩, by omega, by omega⟩ (by omega) (by omega) (by omega) ?_ k0 k1 k' rfl rfl hkx h6f ?_ ⟨hg5.2, hg6⟩ hFx (incF_bd [nm] hf) (incF_inB nm (fun t => (hf t).1) hfB) ?_ ?_ ?_ ?_ oc2 ov2 od2
        · exact hR1.kept ke hB0 (fun b hb2 => hb2)
        · exact h6s.kept ke (fun b hb2 => ⟨hb2, by omega⟩)
        · exact (cx _ _ oc2 (by omega)).trans y2
        · exact (cx _ _ ov2 (by omega)).trans y1
        · exact (cx _ _ od2 (by omega)).trans y5
        · exact (cx _ _ od2 (by omega)).trans ((hk9.cell (p := ⟨db, do_ + 6, none⟩) (by show db < _; omega) od).trans v6)
    refine hC.mono ?_
    rintro e W3 ⟨hv, hT3⟩
    rw [← adds_append] at hT3
    exact ⟨hv, (((hT3.le (by have e1 : [nm].length = 1 := rfl; rw [e1]; omega)).start ka).join hk9 ho)⟩
  have HK2 := hide k2
  have kk0 := HKV.out V (Kept.refl _ _)
  have mel := me_look ⟨fb, 0, none⟩
  have nal := na_look ⟨fb, 0, none⟩
  have mer := me_reach ⟨fb, 0, none⟩
  have nar := na_reach ⟨fb, 0, none⟩
  have hki : (0 : Int) < ((k' + 1 : Nat) : Int) := by omega
  have hki2 : (0 : Int) < (k' : Int) + 1 := by omega
  have hkn2 : 0 < k' + 1 := by omega
  have hx1 := hkx.1
  have hx2 := hkx.2.1
  have hx3 := hkx.2.2
  clear hok k2 vc vv v1 v5 v6 hFV zV hF hsz hfB hf hg5 hg6 h5s h5f h6s h6f h1 h5 h6 hlo hlh hlk hlf hl2 ih hn hBd hM hm hc hxs hx hR1 oc ov od hdb hkx
  subst hV
  go_enter Try.func136, Try.ntmps136
  go_upto_region 1 with fail
  go_region_held3 (fun V => V.cell? ⟨W.heap.size + 1, 0, none⟩ = some (.iface 148 (.pointer (some ⟨fb, 0, none⟩))) ∧ V.cell? ⟨W.heap.size, 0, none⟩ = some (.pointer (some ⟨db, do_, none⟩)) ∧ V.cell? ⟨db, do_ + 5, none⟩ = some (.slice (some ⟨k0, k1, none⟩) (k' + 1) kc))
    (first | with_reducible exact kk0 | with_reducible exact kk1)
    (first | (go_at_call 43; refine HCA.out.mono ?_; rintro e w9 ⟨⟨v9, rfl⟩, hT9⟩; have HT9 := hide hT9; have kk1 := HKV.out w9 hT9.kp; clear hT9) | fail)
  all_goals
    have HC3 := hide (HC2.out w9 HT9.out)
    have kd0 := HKN.out w9 HT9.out.kp
    have kd1 := HKN.out w9.drew (HT9.out.kp.trans (Kept.drew _ _))
    have kd2 := HKN.out (w9.alloc (.cells #[.string nm] 9)).drew ((HT9.out.kp.trans (Kept.alloc _ _ _)).trans (Kept.drew _ _))
    have HKM : Hid (∀ w, FT B0 fb hb kb f (adds M (((rdK x).occ B B).flatten ++ (((rdA ak).occ (inB nm B) (inB nm B)).flatten ++ ((rdK q).occ (inB nm B) (inB nm B)).flatten))) (n + 2 + 4 * ak.size + 4 * (x.size + q.size)) ob _ w → _) := fun w h => HKN.out w h.kp
    clear HC2 HCA kk0 kk1 HKV HKN
    go_upto_region 2 with fail
    go_region_held3 (fun V => V.cell? ⟨W.heap.size + 1, 0, none⟩ = some (.iface 148 (.pointer (some ⟨fb, 0, none⟩))) ∧ V.cell? ⟨W.heap.size, 0, none⟩ = some (.pointer (some ⟨db, do_, none⟩)) ∧ V.cell? ⟨db, do_ + 1, none⟩ = some (.string nm))
      (first | with_reducible exact kd1 | with_reducible exact kd2 | with_reducible exact kd3 | with_reducible exact kd0)
      (first | (go_at_call 145; refine HC3.out.mono ?_; rintro e w8 ⟨⟨v8, rfl⟩, hT8⟩; have HT8 := hide hT8; have kd3 := HKM.out w8 hT8; clear hT8) | fail)
    all_goals
      go_end0
      exact ⟨⟨_, rfl⟩, HT8.out.start HK2.out⟩

end Go.Proofs.Ytmpnbaebdghopaa
