import Derived.Test.YtjfoagmenehapaaDoorPut
import Derived.Deep.DeepCutAuto
namespace Go.Proofs.YtjfoagmenehapaaDoor
open Go.RowKit Go.Joins

def nodeObj (k : Int) (nm : ByteArray) (a : Option Addr) (len cap : Nat) : Obj := .cells #[.int .i64 k, .string nm, .slice a len cap] 29

theorem BK.node {B b : Nat} {k : Int} {nm : ByteArray} {a : Option Addr} {len cap : Nat} {W W' : World} (h : BK B W W') (q : W.heap[b]? = some (nodeObj k nm a len cap)) : W'.heap[b]? = some (nodeObj k nm a len cap) :=
  h.2 b _ q (by simp) (fun c fz e => by simp [nodeObj] at e)

theorem obj_cells {b : Nat} {k : Int} {nm : ByteArray} {a : Option Addr} {len cap : Nat} {W : World} (q : W.heap[b]? = some (nodeObj k nm a len cap)) :
    W.cell? ⟨b, 0, none⟩ = some (.int .i64 k) ∧ W.cell? ⟨b, 1, none⟩ = some (.string nm) ∧ W.cell? ⟨b, 2, none⟩ = some (.slice a len cap) :=
  ⟨by rw [Lib.cell_of_heap q]; rfl, by rw [Lib.cell_of_heap q]; rfl, by rw [Lib.cell_of_heap q]; rfl⟩

theorem Fo.Good.parts : ∀ {F G : Fo}, (F.app G).Good → F.Good ∧ G.Good
  | .nil, _, h => ⟨trivial, h⟩
  | .cons _ _ _ _ _ r, G, ⟨h1, h2, h3⟩ => by
    obtain ⟨a, b⟩ := Fo.Good.parts (F := r) (G := G) h3
    exact ⟨⟨h1, h2, a⟩, b⟩

/-- A node shown behind what stands in the row. -/
def ShS (ks : Fo) : Prop := ∀ (k : Int) (nm : ByteArray) (a : Option Addr) (cap n0 B : Nat) (W : World) (ao : Option Addr) (c n : Nat) (l : List UInt8), (Lit.int .i64 k).wf = true → n0 ≤ B → B ≤ W.heap.size → nm.size + ks.tot ≤ 1048576 →
  l.length + 32 * (1 + nm.size + ks.tot) ≤ 35184372088832 → BR B W ao c n l → ks.Sl W (fun b => b < n0) a cap →
  Calls Tryd.prog 10 #[.slice ao n c, nodeV k nm a ks.len cap] W fun e W' => ∃ ao' c' n', e = .returned (.slice ao' n' c') ∧ BR B W' ao' c' n' (l ++ showR (.cons k nm a cap ks .nil)) ∧ BK B W W'

set_option maxHeartbeats 2000000 in
set_option maxRecDepth 100000 in
theorem show_row : ∀ (m : Nat) (ks : Fo), ks.size < m → ShS ks := by
  intro m
  induction m with
  | zero => intro F hF; omega
  | succ m ih =>
    intro ks hks k nm a cap n0 B W ao c n l hk hn0 hB hnm hl hR hs
    have hg := hs.good
    obtain ⟨k0, k1⟩ := wf_range hk
    have hil := Lib.itoa_length_le k k0 k1
    have HS : Hid (showR (.cons k nm a cap ks .nil) = alone k nm ++ (if ks.len = 0 then [] else 40 :: showR ks ++ [41])) := by
      unfold Hid
      simp [showR, Fo.len]
    unfold nodeV
    go_enter Tryd.func10, Tryd.ntmps10
    go_wp2_with fail
    have q1 : (W.alloc (nodeObj k nm a ks.len cap)).heap[W.heap.size]? = some (nodeObj k nm a ks.len cap) := World.alloc_heap_new W _
    have b1 : BK B W (W.alloc (nodeObj k nm a ks.len cap)) := (BK.refl B W).alloc hB _
    have hR1 := hR.alloc (nodeObj k nm a ks.len cap)
    have z1 : (W.alloc (nodeObj k nm a ks.len cap)).heap.size = W.heap.size + 1 := by simp
    unfold nodeObj at q1 b1 hR1 z1
    generalize W.alloc (.cells #[.int .i64 k, .string nm, .slice a ks.len cap] 29) = W1 at q1 b1 hR1 z1 ⊢
    refine (l4Int_any k W1 k0 k1).mono ?_
    rintro e W2 ⟨rfl, bb2⟩
    have b2 := b1.trans (BK.of (by omega) bb2)
    have q2 := (BK.of (B := B) (by omega) bb2).node q1
    have hR2 := hR1.below bb2
    have z2 := bb2.size
    clear bb2 b1 hR1 q1
    obtain ⟨c0, c1, c2⟩ := obj_cells q2
    go_upto_if 14 with (at_builtin; refine push_str rfl _ _ rfl B W2 ao c n l (Lib.itoa k) rfl rfl (by omega) hR2 (by omega) ?_; intro ao3 cp3 n3 W3 hR3 bb3; have b3 := b2.trans bb3; have q3 := bb3.node q2; have z3 := bb3.1.size; clear hR2 q2 b2 bb3 c0 c1 c2; obtain ⟨c0, c1, c2⟩ := obj_cells q3)
    go_cut [0] (fun s0 wx => ∃ ao4 cp4 n4, s0 = .slice ao4 n4 cp4 ∧ BR B wx ao4 cp4 n4 (l ++ alone k nm) ∧ BK B W wx ∧ W.heap.size + 1 ≤ wx.heap.size ∧ wx.heap[W.heap.size]? = some (nodeObj k nm a ks.len cap))
    case first =>
      by_cases hn0 : nm.size = 0
      · have hbb : nm.toList.isEmpty = true := by
          rw [ByteArray.toList_eq]
          cases nm with
          | mk d => simp only [ByteArray.size] at hn0; rw [Array.eq_empty_of_size_eq_zero hn0]; rfl
        have e : Hid (alone k nm = Lib.itoa k) := by
          unfold Hid alone
          simp only [hn0, if_true, List.append_nil]
        clear hn0
        rw [hbb, Bool.not_true]
        go_wp2_with fail
        go_meet
        case rel =>
          rw [e.out]
          exact ⟨_, _, _, rfl, hR3, b3, by omega, q3⟩
      · have hbb : nm.toList.isEmpty = false := by
          rw [ByteArray.toList_eq]
          cases nm with
          | mk d =>
            simp only [ByteArray.size] at hn0 ⊢
            simp
            intro e
            exact hn0 (by rw [e]; rfl)
        rw [hbb, Bool.not_false]
        go_wp2_with (at_builtin; refine push_step rfl _ _ rfl B _ ao3 cp3 n3 (l ++ Lib.itoa k) [58] 1 rfl ⟨W3.heap.size, 0, none⟩ rfl rfl (by simp; omega) (hR3.alloc _) (new_bytes W3 [58] #[.int .u8 58] 5 rfl) (by simp; omega) ?_; intro ao4 cp4 n4 W4 hR4 bb4; replace bb4 := ((BK.refl B W3).alloc (by omega) _).trans bb4; have b4 := b3.trans bb4; have q4 := bb4.node q3; have z4 := bb4.1.size; clear hR3 q3 b3 bb4 c0 c1 c2; obtain ⟨c0, c1, c2⟩ := obj_cells q4)
        go_loopw [0, 5] (fun s0 s5 wr => ∃ (i cp ni : Nat) (ar : Option Addr), i ≤ nm.size ∧ s5 = .int .i64 i ∧ s0 = .slice ar ni cp ∧ BR B wr ar cp ni (l ++ Lib.itoa k ++ 58 :: (nm.data.toList.take i).flatMap hexb) ∧ BK B W wr ∧ W.heap.size + 1 ≤ wr.heap.size ∧ wr.heap[W.heap.size]? = some (nodeObj k nm a ks.len cap)) (fun _ s5 _ => nm.size - (intOf s5).toNat)
        case atStart => exact ⟨0, cp4, n4, ao4, by omega, rfl, rfl, by simpa using hR4, b4, by omega, q4⟩
        case round =>
          clear hR4 b4 q4 c0 c1 c2
          obtain ⟨i, cp, ni, ar, hi, rfl, rfl, hRi, bi, zi, qi⟩ := hrel
          obtain ⟨c0, c1, c2⟩ := obj_cells qi
          have hll : (l ++ Lib.itoa k ++ 58 :: (nm.data.toList.take i).flatMap hexb).length ≤ l.length + 21 + 1 + 2 * nm.size := by
            have hfl : ∀ m : List UInt8, (m.flatMap hexb).length = m.length * 2 := fun m => by
              induction m with
              | nil => rfl
              | cons x m ih => simp only [List.flatMap_cons, List.length_append, ih, List.length_cons, hexb, List.length_nil]; omega
            simp only [List.length_append, List.length_cons, hfl, List.length_take]
            omega
          by_cases hlt : i < nm.size
          · have hlt' : (i : Int) < nm.size := by omega
            have hx0 := (nm[i]'hlt).toNat_lt
            have hx1 : ((nm[i]'hlt).toNat : Int) / 16 < 16 := by omega
            have hx2 : (nm[i]'hlt).toNat / 16 < 16 := by omega
            have hx3 : (nm[i]'hlt).toNat % 16 < 16 := by omega
            have hx4 : ((nm[i]'hlt).toNat : Int) % 16 < 16 := by omega
            have hx5 : (0 : Int) ≤ ((nm[i]'hlt).toNat : Int) / 16 := by omega
            have hx6 : (0 : Int) ≤ ((nm[i]'hlt).toNat : Int) % 16 := by omega
            have hw1 : IntKind.u8.wrap (((nm[i]'hlt).toNat : Int) / 16) = ((nm[i]'hlt).toNat : Int) / 16 := by simp [IntKind.wrap, IntKind.bits, IntKind.signed]; omega
            have hw2 : ((nm[i]'hlt).toNat : Int).tmod 16 = ((nm[i]'hlt).toNat : Int) % 16 := Int.tmod_eq_emod_of_nonneg (by omega)
            have t1 : (((nm[i]'hlt).toNat : Int) / 16).toNat = (nm[i]'hlt).toNat / 16 := by omega
            have t2 : (((nm[i]'hlt).toNat : Int) % 16).toNat = (nm[i]'hlt).toNat % 16 := by omega
            have hka : ∀ o, (wr.drew.alloc o).cell? ⟨W.heap.size, 1, none⟩ = some (.string nm) := fun o => ((below_alloc1 wr.drew o).cell (p := ⟨W.heap.size, 1, none⟩) (by show W.heap.size < wr.heap.size; omega)).trans c1
            go_upto_region 7 with fail
            go_region_held3 (fun w' => w'.cell? ⟨W.heap.size, 1, none⟩ = some (.string nm)) (first | exact c1 | exact hka _ | exact k6)
              (first
                | (refine push_draw rfl _ _ rfl B _ ar cp ni _ [hexd ((nm[i]'hlt).toNat / 16), hexd ((nm[i]'hlt).toNat % 16)] 2 rfl ⟨wr.heap.size, 0, none⟩ rfl rfl (by simp; omega) (hRi.drew.alloc _) (new_bytes wr.drew _ _ 5 (by simp [Lib.byteCells, hex_at])) (by simp only [List.length_cons, List.length_nil]; omega) ?_; intro ao6 cp6 n6 W6 hR6 bb6; have k6 : W6.cell? ⟨W.heap.size, 1, none⟩ = some (.string nm) := (obj_cells (bb6.node ((BK.refl B wr.drew).alloc (by show B ≤ wr.heap.size; omega) _ |>.node qi))).2.1))
            all_goals
              go_wp2_with fail
              go_roundw
              case rel =>
                have e : (nm.data.toList.take (i + 1)).flatMap hexb = (nm.data.toList.take i).flatMap hexb ++ [hexd ((nm[i]'hlt).toNat / 16), hexd ((nm[i]'hlt).toNat % 16)] := by
                  have hg : nm.data.toList[i]? = some (nm[i]'hlt) := by
                    rw [Array.getElem?_toList]
                    exact Array.getElem?_eq_getElem hlt
                  rw [List.take_add_one, hg]
                  simp [hexb]
                have bb7 : BK B wr W6 := ((BK.refl B wr).drew.alloc (by show B ≤ wr.heap.size; omega) _).trans bb6
                have z7 := bb7.1.size
                refine ⟨i + 1, cp6, n6, ao6, by omega, by go_num, rfl, ?_, bi.trans bb7, by omega, bb7.node qi⟩
                rw [e]
                simpa [List.append_assoc] using hR6
              case measure => simp [intOf]; omega
          · obtain rfl : i = nm.size := by omega
            go_wp2_with fail
            go_meet
            case rel =>
              have e : alone k nm = Lib.itoa k ++ 58 :: (nm.data.toList.take nm.size).flatMap hexb := by
                unfold alone
                rw [if_neg hn0, List.take_of_length_le (by rw [Array.length_toList]; exact Nat.le_refl _)]
              rw [e, ← List.append_assoc]
              exact ⟨_, _, _, rfl, hRi, bi, zi, qi⟩
    case rest =>
      obtain ⟨ao4, cp4, n4, rfl, hR4, b4, z4, q4⟩ := hcut
      obtain ⟨d0, d1, d2⟩ := obj_cells q4
      have ha : (alone k nm).length ≤ 22 + nm.size * 2 := by
        have hfl : ∀ m : List UInt8, (m.flatMap hexb).length = m.length * 2 := fun m => by
          induction m with
          | nil => rfl
          | cons x m ih => simp only [List.flatMap_cons, List.length_append, ih, List.length_cons, hexb, List.length_nil]; omega
        unfold alone
        rw [List.length_append]
        split
        · simp; omega
        · have e : nm.data.toList.length = nm.size := Array.length_toList
          rw [List.length_cons, hfl, e]
          omega
      have hsl := showR_len ks hg
      have hltot := ks.len_le_tot
      rcases Nat.eq_zero_or_pos ks.len with h0 | h0
      · have h0' : ¬ (0 : Int) < ks.len := by omega
        have HS' : Hid (showR (.cons k nm a cap ks .nil) = alone k nm) := by
          unfold Hid
          rw [HS.out, if_pos h0, List.append_nil]
        clear h0 HS
        go_wp2_with fail
        go_ret
        rw [HS'.out]
        exact ⟨_, _, _, rfl, hR4, b4⟩
      · have h0' : (0 : Int) < ks.len := by omega
        have HS' : Hid (showR (.cons k nm a cap ks .nil) = alone k nm ++ (40 :: showR ks ++ [41])) := by
          unfold Hid
          rw [HS.out, if_neg (by omega)]
        clear HS
        go_wp2_with (at_builtin; refine push_step rfl _ _ rfl B _ ao4 cp4 n4 (l ++ alone k nm) [40] 1 rfl ⟨wc.heap.size, 0, none⟩ rfl rfl (by simp; omega) (hR4.alloc _) (new_bytes wc [40] #[.int .u8 40] 5 rfl) (by simp; omega) ?_; intro ao5 cp5 n5 W5 hR5 bb5; replace bb5 := ((BK.refl B wc).alloc (by omega) _).trans bb5; have b5 := b4.trans bb5; have q5 := bb5.node q4; have z5 := bb5.1.size; clear hR4 q4 b4 bb5 d0 d1 d2; obtain ⟨c0, c1, c2⟩ := obj_cells q5)
        go_loopw [0, 6] (fun s0 s6 wr => ∃ (i cp ni : Nat) (ar : Option Addr) (r Fp : Fo), s6 = .int .i64 i ∧ Fp.app r = ks ∧ Fp.len = i ∧ s0 = .slice ar ni cp ∧ BR B wr ar cp ni (l ++ alone k nm ++ 40 :: showR Fp) ∧ BK B W wr ∧ W.heap.size + 1 ≤ wr.heap.size ∧
          wr.heap[W.heap.size]? = some (nodeObj k nm a ks.len cap) ∧ (0 < r.len → ∃ b o, a = some ⟨b, o, none⟩ ∧ b < n0 ∧ r.Row wr (fun b => b < n0) b (o + i * 3))) (fun _ s6 _ => ks.len - (intOf s6).toNat)
        case atStart => exact ⟨0, cp5, n5, ao5, ks, .nil, rfl, rfl, rfl, rfl, by simpa [showR] using hR5, b5, by omega, q5, (hs.below b5.1 (fun b x => by omega)).2.2⟩
        case round =>
          clear hR5 b5 q5 c0 c1 c2
          obtain ⟨i, cp, ni, ar, r, Fp, rfl, hF2, hi, rfl, hRi, bi, zi, qi, hrow⟩ := hrel
          obtain ⟨c0, c1, c2⟩ := obj_cells qi
          have hlen : i + r.len = ks.len := by rw [← hF2, Fo.app_len, hi]
          cases r with
          | nil =>
            simp only [Fo.len] at hlen
            rw [Fo.app_nil] at hF2
            subst hF2
            go_wp2_with (at_builtin; refine push_step rfl _ _ rfl B _ ar cp ni _ [41] 1 rfl ⟨wr.heap.size, 0, none⟩ rfl rfl (by simp; omega) (hRi.alloc _) (new_bytes wr [41] #[.int .u8 41] 5 rfl) (by simp only [List.length_append, List.length_cons, List.length_nil]; omega) ?_; intro ao6 cp6 n6 W6 hR6 bb6; replace bb6 := ((BK.refl B wr).alloc (by omega) _).trans bb6)
            go_ret
            rw [HS'.out]
            exact ⟨_, _, _, rfl, by simpa [List.append_assoc] using hR6, bi.trans bb6⟩
          | cons kk kn ka kcap js r =>
            simp only [Fo.len] at hlen
            obtain ⟨b, o, rfl, hb, hkk, hkn, e1, e2, e3, h4, h5, h6, h7⟩ := hrow (by simp [Fo.len])
            have hjs : js.Sl wr (fun b => b < n0) ka kcap := ⟨h4, h5, h6⟩
            have hsz : js.size < m := by rw [← hF2, Fo.app_size] at hks; simp only [Fo.size] at hks; omega
            have hgp := (Fo.Good.parts (F := Fp) (by rw [hF2]; exact hg)).1
            have hpl := showR_len Fp hgp
            have htt : Fp.tot + (1 + kn.size + js.tot + r.tot) = ks.tot := by rw [← hF2, Fo.app_tot]; rfl
            have hil2 : (i : Int) < ks.len := by omega
            have hil3 : (i : Int) ≤ 1048576 := by omega
            have HF2 := hide hF2
            clear hF2 hs
            go_upto_if 55 with fail
            go_cut [0] (fun s0 wx => ∃ ar2 cp2 n2, s0 = .slice ar2 n2 cp2 ∧ BR B wx ar2 cp2 n2 (l ++ alone k nm ++ 40 :: (showR Fp ++ (if i = 0 then [] else [32]))) ∧ BK B wr wx)
            case first =>
              rcases Nat.eq_zero_or_pos i with hz | hz
              · have hz' : ¬ (0 : Int) < i := by omega
                have HZ := hide hz
                clear hz
                go_wp2_with fail
                go_meet
                case rel =>
                  rw [if_pos HZ.out, List.append_nil]
                  exact ⟨_, _, _, rfl, hRi, BK.refl _ _⟩
              · have hz' : (0 : Int) < i := by omega
                go_wp2_with (at_builtin; refine push_step rfl _ _ rfl B _ ar cp ni _ [32] 1 rfl ⟨wr.heap.size, 0, none⟩ rfl rfl (by simp; omega) (hRi.alloc _) (new_bytes wr [32] #[.int .u8 32] 5 rfl) (by simp only [List.length_append, List.length_cons, List.length_nil]; omega) ?_; intro ao6 cp6 n6 W6 hR6 bb6; replace bb6 := ((BK.refl B wr).alloc (by omega) _).trans bb6)
                go_meet
                case rel =>
                  rw [if_neg (show ¬ i = 0 by omega)]
                  exact ⟨_, _, _, rfl, by simpa [List.append_assoc] using hR6, bb6⟩
            case rest =>
              obtain ⟨ar2, cp2, n2, rfl, hR2, b2⟩ := hcut
              have z2 := b2.1.size
              have q2 := b2.node qi
              clear c0 c1 c2
              obtain ⟨c0, c1, c2⟩ := obj_cells q2
              have f1 := (b2.1.cell (p := ⟨b, o + i * 3, none⟩) (by show b < B; omega)).trans e1
              have f2 := (b2.1.cell (p := ⟨b, o + i * 3 + 1, none⟩) (by show b < B; omega)).trans e2
              have f3 := (b2.1.cell (p := ⟨b, o + i * 3 + 2, none⟩) (by show b < B; omega)).trans e3
              have hC := ih js hsz kk kn ka kcap n0 B wc ar2 cp2 n2 _ hkk (by assumption) (by omega) (by omega) (by
                have : (if i = 0 then [] else [32] : List UInt8).length ≤ 1 := by split <;> simp
                simp only [List.length_append, List.length_cons]
                omega) hR2 (hjs.below b2.1 (fun b x => by omega))
              unfold nodeV at hC
              clear e1 e2 e3 hRi
              go_wp2_with fail
              refine hC.mono ?_
              rintro e w7 ⟨ao7, c7, n7, rfl, hR7, b7⟩
              have z7 := b7.1.size
              have b27 := b2.trans b7
              go_wp2_with fail
              go_roundw
              case rel =>
                refine ⟨i + 1, c7, n7, ao7, r, Fp.app (.cons kk kn ka kcap js .nil), by go_num, by rw [Fo.app_assoc]; exact HF2.out, by rw [Fo.app_len, hi]; rfl, rfl, ?_, bi.trans b27, by omega, b27.node qi, fun _ => ⟨b, o, rfl, hb, ?_⟩⟩
                · have e : showR (Fp.app (.cons kk kn ka kcap js .nil)) = showR Fp ++ (if i = 0 then [] else [32]) ++ showR (.cons kk kn ka kcap js .nil) := by
                    rcases Nat.eq_zero_or_pos i with hz | hz
                    · rw [if_pos hz, Fo.len_zero (hi.trans hz)]
                      simp [Fo.app, showR]
                    · rw [if_neg (by omega), showR_app Fp _ (by omega) (by simp [Fo.len])]
                      simp
                  rw [e]
                  simpa [List.append_assoc] using hR7
                · have eo : o + (i + 1) * 3 = o + i * 3 + 3 := by omega
                  rw [eo]
                  exact h7.below b27.1 (fun b x => by omega) (by omega)
              case measure => simp [intOf]; omega

end Go.Proofs.YtjfoagmenehapaaDoor
