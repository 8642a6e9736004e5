import Derived.Test.YtmnligaelihmiaaNa
import Derived.Test.YtmnligaelihmiaaNd
import Derived.Test.YtmnligaelihmiaaNe
import Derived.Test.YtmnligaelihmiaaGy
namespace Go.Proofs.Ytmnligaelihmiaa
open Go.RowKit Go.Joins
theorem AnsG.read {n0 : Nat} {G : Nat → List Nat} {l : List Nat} {v : Value} {W : World} (h : AnsG n0 G l v W) : ∃ ga gc, v = .slice ga l.length gc ∧ ∀ (i g : Nat), l[i]? = some g → ∃ ob gb cc, ga = some ⟨ob, 0, none⟩ ∧ ob < W.heap.size ∧ W.cell? ⟨ob, i, none⟩ = some (.slice (some ⟨gb, 0, none⟩) (G g).length cc) ∧ gb < W.heap.size ∧ ∀ (j x : Nat), (G g)[j]? = some x → W.cell? ⟨gb, j, none⟩ = some (.int .i64 (x : Int)) := by
  obtain ⟨xs, h1, h2, h3⟩ := h
  rcases h1.2 with ⟨rfl, h0⟩ | ⟨b, cap, cur, rfl, hb, hg, hnc, hcm, -⟩
  · refine ⟨none, 0, by rw [h0], fun i g hg => ?_⟩
    have := (List.getElem?_eq_some_iff.1 hg).1
    omega
  · refine ⟨_, cap, rfl, fun i g hi => ?_⟩
    obtain ⟨gb, gc, a1, a2, a3, a4, a5, a6⟩ := h3 i g hi
    have hil := (List.getElem?_eq_some_iff.1 hi).1
    refine ⟨b, gb, gc, rfl, (Array.getElem?_eq_some_iff.1 hg).1, by rw [World.ownsRow.cellAt h1 i (by have := h1.1; omega)]; exact a1, a3, fun j x hx => ?_⟩
    have hj := (List.getElem?_eq_some_iff.1 hx).1
    rw [a6 j hj, List.getD_eq_getElem?_getD, hx]
    rfl
set_option maxHeartbeats 16000000 in
set_option maxRecDepth 100000 in
theorem lawG (a : Option Addr) (k c : Nat) (W : World) (hc : k ≤ c) (hm : c ≤ maxLen)
    (hb : 0 < k → ∃ b off, a = some ⟨b, off, none⟩ ∧ ∃ g : Nat → Nat, ∀ i, i < k → g i < 256 ∧ W.cell? ⟨b, off + i, none⟩ = some (.int .u8 (g i))) :
    Calls Try.prog 3 #[.slice a k c] W fun e W' => e = .returned (.bool true) ∧ Below W.heap.size W W' := by
  have hki : (k : Int) ≤ 9223372036854775807 := by unfold maxLen at hm; omega
  by_cases hk : (k : Int) > 1048576
  · clear hb hm hc
    go_enter Try.func3, Try.ntmps3
    go_wp2_with fail
    go_ret
    exact ⟨rfl, Below.refl _ _⟩
  · have HC := hide (i_draw a k c W (by omega) hc hm hb)
    clear hb hm hc
    go_enter Try.func3, Try.ntmps3
    go_wp2_with fail
    refine HC.out.mono ?_
    clear HC
    rintro r w1 ⟨v, rfl, e, hdo, hel, her, k1⟩
    obtain ⟨ea, ec, rfl, hem⟩ := hdo.em
    obtain ⟨n, hnn⟩ : ∃ n, e.length = n := ⟨_, rfl⟩
    have hrr : ∀ (x : Nat) (r : List Int), e[x]? = some r → r.length ≤ 1048576 := fun x r hr => by have := her r (List.mem_of_getElem? hr); omega
    have HC := hide (i_groups (ec := ec) (by omega : e.length ≤ 1048576) hrr hem)
    have HLD := hide (fun (x : Nat) (wz : World) (hx : x < e.length) (hez : EM e w1.heap.size ea wz) (hz : w1.heap.size ≤ wz.heap.size) => lw_leads (ec := ec) (W := wz) (by omega : e.length ≤ 1048576) hrr hez hz hx)
    rw [hnn] at HC HLD ⊢
    have HN := hide hnn
    have HK1 := hide k1
    have HEM := hide hem
    have hn7 : n ≤ 7 := by omega
    have hnI : (n : Int) ≤ 7 := by omega
    have hmk := run_make_ints n (by omega)
    clear hdo hem her hrr k1 hel
    go_wp2_with fail
    refine HC.out.mono ?_
    clear HC
    rintro r w2 ⟨v, rfl, of, m, l, G, hp, hq, hlm, hall, hG, hans, k2⟩
    obtain ⟨ga, gc, rfl, hcells⟩ := hans.ans.read
    obtain ⟨pos, hpos⟩ := Gr.pos_ex (of := of) (n := n) (l := l) (fun t ht => hall _ (hp.lt t (by rw [hnn]; exact ht)))
    have hcl : ∀ (i g : Nat), l[i]? = some g → ∃ ob gb cc, ga = some ⟨ob, 0, none⟩ ∧ ob < w2.heap.size ∧ w2.cell? ⟨ob, i, none⟩ = some (.slice (some ⟨gb, 0, none⟩) (Gr.gm of n g).length cc) ∧ gb < w2.heap.size ∧ ∀ (j x : Nat), (Gr.gm of n g)[j]? = some x → w2.cell? ⟨gb, j, none⟩ = some (.int .i64 (x : Int)) := fun i g hg => by
      have h9 := hcells i g hg
      rw [hG g (hq.lt g (List.mem_of_getElem? hg))] at h9
      exact h9
    have HCL := hide hcl
    have HP := hide hp
    have HQ := hide hq
    have HPO := hide hpos
    have HK2 := hide k2
    have HEM2 : Hid (EM e w1.heap.size ea w2) := HEM.out.kept k2 (fun c h => h) (Nat.le_refl _)
    have HK02 : Hid (Kept (fun c => c < W.heap.size) W w2) := HK1.out.trans (k2.mono (fun c _ h => by have := HK1.out.size; show c < w1.heap.size; omega))
    have HLL : Hid (l.length ≤ 7) := by
      have h1 := hp.le_len
      unfold Hid; omega
    obtain ⟨q, hqq⟩ : ∃ q, l.length = q := ⟨_, rfl⟩
    rw [hqq] at HLL ⊢
    have HQL := hide hqq
    have hqI : (q : Int) ≤ 7 := by have := HLL.out; omega
    clear hcells hcl hp hq hlm hall hG hans k2 hpos hqq
    go_wp2_with fail
    obtain ⟨V3, hV3⟩ : ∃ V3, w2.alloc (.cells (madeCells #[.int .i64 0] n) 3) = V3 := ⟨_, rfl⟩
    rw [hV3]
    obtain ⟨AB, hAB⟩ : ∃ AB, AB = w2.heap.size := ⟨_, rfl⟩
    rw [← hAB]
    have k3 : Kept (fun _ => True) w2 V3 := by rw [← hV3]; exact Kept.alloc _ _ _
    have hfr : FR V3 AB n (fun _ => 0) := by rw [← hV3, hAB]; exact FR.made (heap_new _ _)
    have hsz3 : AB < V3.heap.size := by rw [← hV3, hAB]; simp
    have HCL3 : Hid (∀ wz, Kept (fun c => c ≠ AB) V3 wz → ∀ (i g : Nat), l[i]? = some g → ∃ ob gb cc, ga = some ⟨ob, 0, none⟩ ∧ wz.cell? ⟨ob, i, none⟩ = some (.slice (some ⟨gb, 0, none⟩) (Gr.gm of n g).length cc) ∧ ∀ (j x : Nat), (Gr.gm of n g)[j]? = some x → wz.cell? ⟨gb, j, none⟩ = some (.int .i64 (x : Int))) := fun wz kz i g hg => by
      obtain ⟨ob, gb, cc, c1, c2, c3, c4, c5⟩ := HCL.out i g hg
      have kk : Kept (fun c => c ≠ AB) w2 wz := (k3.mono (fun _ _ _ => trivial)).trans kz
      exact ⟨ob, gb, cc, c1, (kk.cell (p := ⟨ob, i, none⟩) c2 (by show ob ≠ AB; omega)).trans c3, fun j x hx => (kk.cell (p := ⟨gb, j, none⟩) c4 (by show gb ≠ AB; omega)).trans (c5 j x hx)⟩
    have HFR := hide hfr
    have HS3 := hide hsz3
    have HEM3 : Hid (EM e w1.heap.size ea V3 ∧ w1.heap.size ≤ AB ∧ W.heap.size ≤ AB) := ⟨HEM2.out.kept k3 (fun _ _ => trivial) (by have := HK2.out.size; omega), by have := HK2.out.size; omega, by have := HK02.out.size; omega⟩
    have HK03 : Hid (Kept (fun c => c < W.heap.size) W V3) := HK02.out.trans (k3.mono (fun _ _ _ => trivial))
    clear hV3 hAB k3 hfr hsz3 hmk HCL HK2 HK02 HEM2 HEM HK1
    go_loopw [7, 8, 9] (fun s7 s8 s9 wr => ∃ (i : Nat) (f : Nat → Nat), s7 = .int .i64 (i : Int) ∧ (∃ v, s8 = v) ∧ (∃ v, s9 = v) ∧ i ≤ q ∧ Hid (FR wr AB n f) ∧ Hid (Gr.AT of pos n l i 0 f) ∧ Hid (Kept (fun c => c ≠ AB) V3 wr)) (fun s7 _ _ _ => q - (intOf s7).toNat)
    case atStart => exact ⟨0, _, rfl, ⟨_, rfl⟩, ⟨_, rfl⟩, Nat.zero_le _, HFR.out, Gr.AT.start, Kept.refl _ _⟩
    case round =>
      obtain ⟨i, f, rfl, ⟨v8, rfl⟩, ⟨v9, rfl⟩, hiq, hf, hat, hk3⟩ := hrel
      have HIQ := hide hiq
      by_cases hi : i < q
      · have hii : (i : Int) < (q : Int) := by omega
        have HII := hide hi
        obtain ⟨g, hg⟩ : ∃ g, l[i]? = some g := ⟨_, List.getElem?_eq_getElem (by rw [HQL.out]; exact hi)⟩
        have HF := hide hf.out
        have HAT := hide hat.out
        have HK3 := hide hk3.out
        have HG := hide hg
        obtain ⟨gl, hgl⟩ : ∃ gl, (Gr.gm of n g).length = gl := ⟨_, rfl⟩
        have hgl7 : gl ≤ 7 := by
          have h1 : (Gr.gm of n g).length ≤ (List.range n).length := List.length_filter_le _ _
          rw [List.length_range] at h1
          omega
        have hglI : (gl : Int) ≤ 7 := by omega
        have HGL := hide hgl
        have HG7 := hide hgl7
        clear hf hat hk3 hg hgl hi hiq
        go_wp2_with fail
        go_loopw [8, 9] (fun s8 s9 wr => ∃ (k : Nat) (f : Nat → Nat), s8 = .int .i64 (k : Int) ∧ (∃ v, s9 = v) ∧ k ≤ gl ∧ Hid (FR wr AB n f) ∧ Hid (Gr.AT of pos n l i k f) ∧ Hid (Kept (fun c => c ≠ AB) V3 wr)) (fun s8 _ _ => gl - (intOf s8).toNat)
        case atStart => exact ⟨0, f, rfl, ⟨_, rfl⟩, Nat.zero_le _, HF.out, HAT.out, HK3.out⟩
        case round =>
          obtain ⟨k, f2, rfl, ⟨v9, rfl⟩, hkg, hf, hat, hk3⟩ := hrel
          obtain ⟨ob, gb, cc, rfl, c1, c2⟩ := HCL3.out wr hk3.out i g HG.out
          rw [HGL.out] at c1
          have HKG := hide hkg
          by_cases hk2 : k < gl
          · have hkk : (k : Int) < (gl : Int) := by omega
            obtain ⟨v, hv⟩ : ∃ v, (Gr.gm of n g)[k]? = some v := ⟨_, List.getElem?_eq_getElem (by rw [HGL.out]; exact hk2)⟩
            have c3 := c2 k v hv
            obtain ⟨hvn, hv0, hvp, hat2⟩ := hat.out.step HPO.out HQ.out.nodup HG.out hv
            have c4 := (hf.out v hvn).1
            have f4 := (hf.out v hvn).2
            rw [hv0] at c4
            unfold iv at c4
            have hvnI : (v : Int) < (n : Int) := by omega
            have hvz : (0 : Int) ≤ (v : Int) := by omega
            have HF2 : Hid (FR (wr.setCell ⟨AB, v, none⟩ (.int .i64 ((i : Int) + 1))) AB n (Gr.upd f2 v (i + 1))) := hf.out.set (x := v) (i + 1)
            have HAT2 := hide hat2
            have HK4 : Hid (Kept (fun c => c ≠ AB) V3 (wr.setCell ⟨AB, v, none⟩ (.int .i64 ((i : Int) + 1)))) := hk3.out.trans (Kept.setCell _ _ _ _ (by simp))
            have HK2L := hide hk2
            by_cases hk0 : k = 0
            · subst hk0
              clear hf hat hk3 c2 hv hv0 hvp hat2 hk2
              go_wp2_with fail
              go_roundw
              case rel => exact ⟨0 + 1, _, by go_num, ⟨_, rfl⟩, HK2L.out, HF2.out, HAT2.out, HK4.out⟩
              case measure => (have := HK2L.out; have := HG7.out; simp [intOf]; omega)
            · obtain ⟨p, rfl⟩ : ∃ p, k = p + 1 := ⟨k - 1, by omega⟩
              obtain ⟨u, hu⟩ : ∃ u, (Gr.gm of n g)[p]? = some u := ⟨_, List.getElem?_eq_getElem (by rw [HGL.out]; omega)⟩
              have c5 := c2 p u hu
              have huv : (u : Int) < (v : Int) := by have := hvp u (by omega) hu; omega
              have hp1 : ((p + 1 : Nat) : Int) - 1 = (p : Int) := by omega
              have hp0 : ((p + 1 : Nat) : Int) > 0 := by omega
              have hpg : (p : Int) < (gl : Int) := by omega
              clear hf hat hk3 c2 hv hv0 hvp hat2 hk2 hu hk0
              go_wp2_with fail
              go_roundw
              case rel => exact ⟨p + 1 + 1, _, by go_num, ⟨_, rfl⟩, HK2L.out, HF2.out, HAT2.out, HK4.out⟩
              case measure => (have := HK2L.out; have := HG7.out; simp [intOf]; omega)
          · have hkk : ¬ (k : Int) < (gl : Int) := by omega
            have HF2 := hide hf.out
            have HAT2 : Hid (Gr.AT of pos n l (i + 1) 0 f2) := hat.out.next HPO.out HG.out (by rw [HGL.out]; omega)
            have HK4 := hide hk3.out
            clear hf hat hk3 c2 hk2
            go_wp2_with fail
            go_roundw
            case rel => exact ⟨i + 1, f2, by have := HII.out; have := HLL.out; go_num, ⟨_, rfl⟩, ⟨_, rfl⟩, HII.out, HF2.out, HAT2.out, HK4.out⟩
            case measure => (have := HII.out; have := HLL.out; simp [intOf]; omega)
      · have hii : ¬ (i : Int) < (q : Int) := by omega
        have HF := hide hf.out
        have HFIN := hide (hat.out.fin HPO.out (by rw [HQL.out]; omega))
        have HK3 := hide hk3.out
        clear hf hat hk3 hi hiq
        obtain ⟨Z, hZ⟩ : ∃ Z, Z = wr.heap.size := ⟨_, rfl⟩
        obtain ⟨V5, hV5⟩ : ∃ V5, V5 = wr := ⟨_, rfl⟩
        have hABZ : AB < Z := by have := HS3.out; have := HK3.out.size; omega
        have HX : Hid (∀ wz, Kept (fun c => c < Z) V5 wz → (∀ t, t < n → wz.cell? ⟨AB, t, none⟩ = some (.int .i64 ((pos t : Int) + 1))) ∧ EM e w1.heap.size ea wz ∧ w1.heap.size ≤ wz.heap.size) := fun wz kz => by
          rw [hV5] at kz
          refine ⟨fun t ht => ?_, ?_, ?_⟩
          · have h1 := (HF.out t ht).1
            rw [HFIN.out t ht] at h1
            exact (kz.cell (p := ⟨AB, t, none⟩) (by rw [← hZ]; exact hABZ) hABZ).trans h1
          · have h1 := HEM3.out.1.kept HK3.out (fun c hc => by have := HEM3.out.2.1; show c ≠ AB; omega) (by have := HEM3.out.2.1; have := HS3.out; omega)
            exact h1.kept kz (fun c hc => by have := HEM3.out.2.1; show c < Z; omega) (by have := HEM3.out.2.1; omega)
          · have := kz.size; have := HEM3.out.2.1; omega
        have HK5 : Hid (Kept (fun c => c < W.heap.size) W V5 ∧ W.heap.size ≤ Z ∧ V5.heap.size = Z) := ⟨by rw [hV5]; exact HK03.out.trans (HK3.out.mono (fun c _ h => by have := HEM3.out.2.2; show c ≠ AB; omega)), by have := HEM3.out.2.2; omega, by rw [hV5, hZ]⟩
        have HONE : Hid (∀ x y, x < n → y < n → ((y = x ∨ Gr.Ld e x y ∧ Gr.Ld e y x) ↔ pos y = pos x)) := fun x y hx hy => by
          rw [HPO.out.iff HQ.out.nodup hy hx]
          exact Gr.one_iff HP.out (by rw [HN.out]; exact hx) (by rw [HN.out]; exact hy)
        have HBE : Hid (∀ x y, Gr.Ld e x y → pos y ≤ pos x) := fun x y h => HQ.out.behind (by rw [HN.out]; exact HPO.out) h.rt
        have HK55 : Hid (Kept (fun c => c < Z) V5 wr) := by unfold Hid; rw [hV5]; exact Kept.refl _ _
        clear HF HFIN HK3 HEM3 HK03 HFR HS3 HCL3 hABZ hZ hV5 HP HQ HPO HQL HLL
        go_wp2_with fail
        go_loopw [10, 11, 12, 13] (fun s10 s11 s12 s13 wr => ∃ (x : Nat), s10 = .int .i64 (x : Int) ∧ (∃ v, s11 = v) ∧ (∃ v, s12 = v) ∧ (∃ v, s13 = v) ∧ x ≤ n ∧ Hid (Kept (fun c => c < Z) V5 wr)) (fun s10 _ _ _ _ => n - (intOf s10).toNat)
        case atStart => exact ⟨0, rfl, ⟨_, rfl⟩, ⟨_, rfl⟩, ⟨_, rfl⟩, Nat.zero_le _, HK55.out⟩
        case round =>
          obtain ⟨x, rfl, ⟨v11, rfl⟩, ⟨v12, rfl⟩, ⟨v13, rfl⟩, hx, hk5⟩ := hrel
          obtain ⟨d1, d2, d3⟩ := HX.out wr hk5.out
          by_cases hxn : x < n
          · have hxi : (x : Int) < (n : Int) := by omega
            have HXN := hide hxn
            have HC := hide (HLD.out x wr hxn d2 d3)
            have HK6 := hide hk5.out
            obtain ⟨A, hA⟩ : ∃ A : Int, (pos x : Int) + 1 = A := ⟨_, rfl⟩
            have hpz : (A == 0) = false := by simp; omega
            have HA := hide hA
            clear hk5 d1 d2 d3 hx hxn hA
            go_wp2_with fail
            refine HC.out.mono ?_
            clear HC
            rintro r w6 ⟨v, rfl, R, row, rfl, hR, hfb, hld, k6⟩
            have HK6' : Hid (Kept (fun c => c < Z) V5 w6) := HK6.out.trans (k6.mono (fun c _ h => by have h1 := HK6.out.size; have h2 := HK5.out.2.2; show c < wr.heap.size; omega))
            have hRl : R < w6.heap.size := by
              have h1 := (hfb x HXN.out).1
              exact block_lt_of_cell h1
            obtain ⟨Z6, hZ6⟩ : ∃ Z6, Z6 = w6.heap.size := ⟨_, rfl⟩
            obtain ⟨V6, hV6⟩ : ∃ V6, V6 = w6 := ⟨_, rfl⟩
            have HZ6 : Hid (Z ≤ Z6) := by have := HK6'.out.size; have := HK5.out.2.2; unfold Hid; omega
            have HX6 : Hid (∀ wz, Kept (fun c => c < Z6) V6 wz → Kept (fun c => c < Z) V5 wz ∧ (∀ y, y < n → wz.cell? ⟨R, y, none⟩ = some (.bool (row y)))) := fun wz kz => by
              rw [hV6] at kz
              refine ⟨HK6'.out.trans (kz.mono (fun c _ h => by have := HZ6.out; show c < Z6; omega)), fun y hy => (kz.cell (p := ⟨R, y, none⟩) hRl (by show R < Z6; omega)).trans (hfb y hy).1⟩
            have HLDX := hide hld
            have HK66 : Hid (Kept (fun c => c < Z6) V6 w6 ∧ V6.heap.size = Z6) := ⟨by rw [hV6]; exact Kept.refl _ _, by rw [hV6, hZ6]⟩
            have c1 := (HX.out w6 HK6'.out).1 x HXN.out
            rw [HA.out] at c1
            clear hR hfb hld k6 HK6' HK6 hRl hZ6 hV6
            go_wp2_with fail
            go_loopw [12, 13] (fun s12 s13 wr => ∃ (y : Nat), s12 = .int .i64 (y : Int) ∧ (∃ v, s13 = v) ∧ y ≤ n ∧ Hid (Kept (fun c => c < Z6) V6 wr)) (fun s12 _ _ => n - (intOf s12).toNat)
            case atStart => exact ⟨0, rfl, ⟨_, rfl⟩, Nat.zero_le _, HK66.out.1⟩
            case round =>
              obtain ⟨y, rfl, ⟨v13, rfl⟩, hy, hk6⟩ := hrel
              clear c1
              obtain ⟨k5, r1⟩ := HX6.out wr hk6.out
              obtain ⟨d1, d2, d3⟩ := HX.out wr k5
              by_cases hyn : y < n
              · have hyi : (y : Int) < (n : Int) := by omega
                have HYN := hide hyn
                have cx := d1 x HXN.out
                have cy := d1 y hyn
                have cr := r1 y hyn
                rw [HA.out] at cx
                have HK7 := hide hk6.out
                have one := HONE.out x y HXN.out hyn
                clear hk6 hy
                by_cases hxy : x = y
                · subst hxy
                  clear one d1 d2 d3 r1 k5 hyn cy
                  cases hrx : row x with
                  | true =>
                    rw [hrx] at cr
                    clear hrx
                    go_wp2_with fail
                    go_quiet (fail)
                    go_wp2_with fail
                    go_roundw
                    case rel => exact ⟨x + 1, by have := HXN.out; go_num, ⟨_, rfl⟩, HXN.out, HK7.out.trans (Kept.drewN _ _ _)⟩
                    case measure => (have := HXN.out; simp [intOf]; omega)
                  | false =>
                    rw [hrx] at cr
                    clear hrx
                    go_wp2_with fail
                    go_quiet (fail)
                    go_wp2_with fail
                    go_roundw
                    case rel => exact ⟨x + 1, by have := HXN.out; go_num, ⟨_, rfl⟩, HXN.out, HK7.out.trans (Kept.drewN _ _ _)⟩
                    case measure => (have := HXN.out; simp [intOf]; omega)
                · have hxyi : ¬ (x : Int) = (y : Int) := by omega
                  have hxyb : ((x : Int) == (y : Int)) = false := by simp; omega
                  obtain ⟨B, hB⟩ : ∃ B : Int, (pos y : Int) + 1 = B := ⟨_, rfl⟩
                  rw [hB] at cy
                  have HB := hide hB
                  have hAB9 := HA.out
                  cases hry : row y with
                  | false =>
                    rw [hry] at cr
                    have hne : ¬ pos y = pos x := fun h9 => by
                      rcases one.2 h9 with h8 | h8
                      · exact hxy h8.symm
                      · have := (HLDX.out y).2 h8.1
                        rw [hry] at this; cases this
                    have hnei : (A == B) = false := by simp; omega
                    clear hry hne one d1 d2 d3 r1 k5 hyn hxy hB hAB9
                    go_wp2_with fail
                    go_quiet (fail)
                    go_wp2_with fail
                    go_roundw
                    case rel => exact ⟨y + 1, by have := HYN.out; go_num, ⟨_, rfl⟩, HYN.out, HK7.out.trans (Kept.drewN _ _ _)⟩
                    case measure => (have := HYN.out; simp [intOf]; omega)
                  | true =>
                    rw [hry] at cr
                    have hlxy := (HLDX.out y).1 hry
                    have HRY := hide hry
                    have hbe := HBE.out x y hlxy
                    have HC := hide (HLD.out y wr hyn d2 d3)
                    have HONE2 := hide one
                    have HLXY := hide hlxy
                    have HBE2 := hide hbe
                    clear hry one d1 d2 d3 r1 k5 hyn hxy hB hAB9 hlxy hbe cx cy
                    go_wp2_with fail
                    refine HC.out.mono ?_
                    clear HC
                    rintro r w8 ⟨v, rfl, R2, row2, rfl, hR2, hfb2, hld2, k8⟩
                    have HK8 : Hid (Kept (fun c => c < Z6) V6 w8) := HK7.out.trans (k8.mono (fun c _ h => by have h1 := HK7.out.size; have h2 := HK66.out.2; show c < wr.heap.size; omega))
                    obtain ⟨k5, r1⟩ := HX6.out w8 HK8.out
                    obtain ⟨d1, -, -⟩ := HX.out w8 k5
                    have cx := d1 x HXN.out
                    have cy := d1 y HYN.out
                    rw [HA.out] at cx
                    rw [HB.out] at cy
                    have cr := r1 y HYN.out
                    rw [HRY.out] at cr
                    have cr2 := (hfb2 x HXN.out).1
                    have hbe := HBE2.out
                    have hA := HA.out
                    have hB := HB.out
                    cases hr2 : row2 x with
                    | true =>
                      rw [hr2] at cr2
                      have hAB : A = B := by
                        have := HONE2.out.1 (.inr ⟨HLXY.out, (hld2 x).1 hr2⟩)
                        omega
                      subst hAB
                      clear hr2 hR2 hfb2 hld2 k8 k5 r1 d1 hbe hA hB
                      go_wp2_with fail
                      go_quiet (fail)
                      go_wp2_with fail
                      go_roundw
                      case rel => exact ⟨y + 1, by have := HYN.out; go_num, ⟨_, rfl⟩, HYN.out, HK8.out.trans (Kept.drewN _ _ _)⟩
                      case measure => (have := HYN.out; simp [intOf]; omega)
                    | false =>
                      rw [hr2] at cr2
                      have hne : pos y ≠ pos x := fun h9 => by
                        rcases HONE2.out.2 h9 with h8 | h8
                        · omega
                        · have := (hld2 x).2 h8.2
                          rw [hr2] at this; cases this
                      have hnei : (A == B) = false := by simp; omega
                      have hngt : ¬ B > A := by omega
                      clear hr2 hR2 hfb2 hld2 k8 k5 r1 d1 hbe hA hB hne
                      go_wp2_with fail
                      go_quiet (fail)
                      go_wp2_with fail
                      go_roundw
                      case rel => exact ⟨y + 1, by have := HYN.out; go_num, ⟨_, rfl⟩, HYN.out, HK8.out.trans (Kept.drewN _ _ _)⟩
                      case measure => (have := HYN.out; simp [intOf]; omega)
              · have hyi : ¬ (y : Int) < (n : Int) := by omega
                have HK7 := hide k5
                clear hk6 k5 r1 d1 d2 d3 hy hyn
                go_wp2_with fail
                go_roundw
                case rel => exact ⟨x + 1, by have := HXN.out; go_num, ⟨_, rfl⟩, ⟨_, rfl⟩, ⟨_, rfl⟩, HXN.out, HK7.out⟩
                case measure => (have := HXN.out; simp [intOf]; omega)
          · have hxi : ¬ (x : Int) < (n : Int) := by omega
            have HK6 := hide hk5.out
            clear hk5 d1 d2 d3 hx hxn
            go_wp2_with fail
            go_ret
            exact ⟨rfl, (HK5.out.1.trans (HK6.out.mono (fun c _ h => by have := HK5.out.2.1; show c < Z; omega))).below (fun _ hb => hb) (Nat.le_refl _)⟩
end Go.Proofs.Ytmnligaelihmiaa
