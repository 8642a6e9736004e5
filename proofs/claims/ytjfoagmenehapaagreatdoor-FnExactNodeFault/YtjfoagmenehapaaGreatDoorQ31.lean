import Derived.Test.YtjfoagmenehapaaGreatDoorQ30
import Derived.Deep.Cut
namespace Go.Proofs.YtjfoagmenehapaaGreatDoor.Tree
open Go.RowKit Go.Shelf Go.Joins

attribute [local go_sem] Oper.semAt_some

theorem idx_cases (c : UInt8) : ∀ L : List UInt8, Lib.indexByte L c = -1 ∨ ∃ j : Nat, j < L.length ∧ Lib.indexByte L c = (j : Int)
  | [] => .inl rfl
  | b :: L => by
    unfold Lib.indexByte
    by_cases h : (b == c) = true
    · rw [if_pos h]; exact .inr ⟨0, by simp, rfl⟩
    · rw [if_neg h]
      rcases idx_cases c L with h1 | ⟨j, h1, h2⟩
      · rw [h1]; exact .inl rfl
      · rw [h2, if_neg (by simp)]; exact .inr ⟨j + 1, by simp; omega, by omega⟩

/-- The parts between bars. -/
def splF : Nat → ByteArray → List ByteArray
  | 0, s => [s]
  | m + 1, s => if Lib.indexByte s.data.toList 124 < 0 then [s] else s.extract 0 (Lib.indexByte s.data.toList 124).toNat :: splF m (s.extract ((Lib.indexByte s.data.toList 124).toNat + 1) s.size)

def txSize (W : World) (b : Nat) : Nat := match W.cell? ⟨b, 0, none⟩ with
  | some (.string x) => x.size
  | _ => 0

set_option maxRecDepth 100000 in
set_option maxHeartbeats 2000000 in
theorem split_seq (n : Nat) (hn : 1 ≤ n) (rb sb vb : Nat) (s : ByteArray) (S : Nat → Prop) (w : World) (hSr : S rb) (hSs : S sb) (hSv : S vb) (hne1 : rb ≠ sb) (hne2 : rb ≠ vb)
    (hrb : w.cell? ⟨rb, 0, none⟩ = some (.string s)) (hrf : w.frozen? ⟨rb, 0, none⟩ = false) (hsb : w.cell? ⟨sb, 0, none⟩ = some (.string ⟨#[124]⟩)) (hvb : w.cell? ⟨vb, 0, none⟩ = some (.int .i64 0)) (hsz : s.size ≤ 1000) :
    SeqX (P := Tryz.prog) Fence.wide n 69 #[.pointer (some ⟨sb, 0, none⟩), .pointer (some ⟨rb, 0, none⟩), .pointer (some ⟨vb, 0, none⟩)] (encsT (splF (s.size + 1) s)) (splF (s.size + 1) s).length S (fun b => b = rb) w := by
  intro l J Jx W hW hJ hJx hY h0
  have hrW : W.cell? ⟨rb, 0, none⟩ = some (.string s) := (hW.cell (p := ⟨rb, 0, none⟩) (block_lt_of_cell hrb)).trans hrb
  have hfW : W.frozen? ⟨rb, 0, none⟩ = false := (hW.frozen (p := ⟨rb, 0, none⟩) (block_lt_of_cell hrb)).trans hrf
  have hsW : W.cell? ⟨sb, 0, none⟩ = some (.string ⟨#[124]⟩) := (hW.cell (p := ⟨sb, 0, none⟩) (block_lt_of_cell hsb)).trans hsb
  have hvW : W.cell? ⟨vb, 0, none⟩ = some (.int .i64 0) := (hW.cell (p := ⟨vb, 0, none⟩) (block_lt_of_cell hvb)).trans hvb
  obtain ⟨LL, hLL⟩ : ∃ LL, LL = splF (s.size + 1) s := ⟨_, rfl⟩
  rw [← hLL] at hY ⊢
  have HLL : Hid (LL.drop 0 = splF (s.size + 1) s) := hLL
  have HY := hide hY
  have HJA := hide hJ
  clear hLL hY hrb hrf hsb hvb hJ
  refine callsIn_of_wp Tryz.func69 rfl trivial ?_ rfl
  simp only [Tryz.ntmps69, List.size_toArray, List.length_cons, List.length_nil, Nat.reduceAdd, Nat.reduceSub, Array.replicate_succ, Array.replicate_zero, List.push_toArray, List.append_toArray, List.nil_append, List.cons_append]
  gi_wp2_with fail
  gi_loopw [7, 8] (fun _ _ wr => ∃ (k m : Nat) (cur : ByteArray), k ≤ LL.length ∧ cur.size ≤ 1000 ∧ cur.size < m ∧ Hid (LL.drop k = splF m cur) ∧ Hid (J k (fun _ => False) wr) ∧ wr.cell? ⟨rb, 0, none⟩ = some (.string cur) ∧ wr.frozen? ⟨rb, 0, none⟩ = false ∧ wr.cell? ⟨sb, 0, none⟩ = some (.string ⟨#[124]⟩) ∧ wr.cell? ⟨vb, 0, none⟩ = some (.int .i64 0)) (fun _ _ wr => txSize wr rb)
  case atStart => exact ⟨0, s.size + 1, s, Nat.zero_le _, hsz, Nat.lt_succ_self _, HLL, h0, hrW, hfW, hsW, hvW⟩
  case round =>
    obtain ⟨k, m, cur, hkl, hcz, hcm, HR, HJ, hr, hf, hs, hv⟩ := hrel
    have HX : Hid (∀ wx, Calls Tryz.prog 71 #[.string cur, .string ⟨#[124]⟩] wx fun e w' => e = .returned (.int .i64 (Lib.indexByte cur.data.toList 124)) ∧ w' = wx) := fun wx => Tryz.strings_Index_one cur 124 wx
    have hlen : cur.data.toList.length = cur.size := Array.length_toList
    have HM : Hid (txSize wr rb = cur.size) := by unfold Hid txSize; rw [hr]
    have hR := HR.out
    obtain ⟨m', rfl⟩ : ∃ m', m = m' + 1 := ⟨m - 1, by omega⟩
    simp only [splF] at hR
    clear HR
    rcases idx_cases 124 cur.data.toList with hx | ⟨j, hj, hx⟩
    · rw [hx] at hR HX
      rw [if_pos (by decide)] at hR
      obtain ⟨hk1, hk2, hk3⟩ := drop_cons hR
      have hN : k + 1 = LL.length := by have := List.drop_eq_nil_iff.1 hk3; omega
      obtain ⟨fn, tmps, assign, body, hy, hYR⟩ := HY.out k (fun _ => False) wr hk1 (fun b h => h.elim) HJ.out
      unfold encsT at hy
      rw [hk2] at hy
      have HYR := hide hYR
      clear hR hYR hk2 hk3 hx
      gi_wp2_with (refine ⟨trivial, ?_⟩; gi_at_call 71; refine (callsIn_wide.2 (HX.out wr)).mono ?_; rintro e w' ⟨rfl, rfl⟩)
      refine HYR.out.mono ?_
      rintro e W3 ⟨hK, (⟨rfl, hj⟩ | ⟨rfl, hj⟩)⟩
      · have HJ3 := hide hj
        clear hj
        gi_wp2_with fail
        go_end0
        exact ⟨⟨_, rfl⟩, .inl ⟨_, by rw [← hN]; exact HJ3.out⟩⟩
      · have HJ3 := hide hj
        clear hj
        gi_wp2_with fail
        go_end0
        exact ⟨⟨_, rfl⟩, .inr ⟨k, _, hk1, HJ3.out⟩⟩
    · rw [hx] at hR HX
      rw [if_neg (by omega), Int.toNat_natCast] at hR
      rw [hlen] at hj
      obtain ⟨hk1, hk2, hk3⟩ := drop_cons hR
      obtain ⟨fn, tmps, assign, body, hy, hYR⟩ := HY.out k (fun _ => False) wr hk1 (fun b h => h.elim) HJ.out
      unfold encsT at hy
      rw [hk2] at hy
      have HYR := hide hYR
      have HR3 := hide hk3
      have hj0 : ¬ (j : Int) < 0 := by omega
      have hj1 : (j : Int) ≤ cur.size := by omega
      have hj2 : (j : Int) + 1 ≤ cur.size := by omega
      have hj3 : (j : Int) < 1000 := by omega
      have hxs : (cur.extract (j + 1) cur.size).size = cur.size - (j + 1) := by rw [ByteArray.size_extract]; omega
      have HXS := hide hxs
      clear hR hYR hk2 hk3 hx hlen hxs
      gi_wp2_with (refine ⟨trivial, ?_⟩; gi_at_call 71; refine (callsIn_wide.2 (HX.out wr)).mono ?_; rintro e w' ⟨rfl, rfl⟩)
      refine HYR.out.mono ?_
      rintro e W3 ⟨hK, (⟨rfl, hjj⟩ | ⟨rfl, hjj⟩)⟩
      · have r3 := (hK.cell (p := ⟨rb, 0, none⟩) (block_lt_of_cell hr) (.inr hSr)).trans hr
        have f3 := (hK.frozen (p := ⟨rb, 0, none⟩) (block_lt_of_cell hr) (.inr hSr)).trans hf
        have s3 := (hK.cell (p := ⟨sb, 0, none⟩) (block_lt_of_cell hs) (.inr hSs)).trans hs
        have v3 := (hK.cell (p := ⟨vb, 0, none⟩) (block_lt_of_cell hv) (.inr hSv)).trans hv
        have HJ3 := hide hjj
        clear hjj hr hf hs hv
        gi_wp2_with fail
        go_roundw
        case rel =>
          refine ⟨k + 1, m', cur.extract (j + 1) cur.size, hk1, by rw [HXS.out]; omega, by rw [HXS.out]; omega, HR3, ?_, World.cell?_setCell_same' _ _ _ (by rw [r3]; rfl), by rw [World.frozen?_setCell]; exact f3, ?_, ?_⟩
          · exact HJA.out _ _ _ _ _ HJ3.out (Kept.setCell _ _ _ _ (by simp)) (fun b h => .inl h)
          · exact (World.cell?_setCell_other _ _ _ _ (by simp)).trans s3
          · exact (World.cell?_setCell_other _ _ _ _ (by simp)).trans v3
        case measure =>
          rw [HM.out]
          unfold txSize
          rw [World.cell?_setCell_same' _ _ _ (by rw [r3]; rfl)]
          show (cur.extract (j + 1) cur.size).size < cur.size
          rw [HXS.out]
          omega
      · have HJ3 := hide hjj
        clear hjj
        gi_wp2_with fail
        refine bodyPost_ret (results_none rfl _ _ _) rfl ?_
        exact ⟨⟨_, rfl⟩, .inr ⟨k, _, hk1, HJ3.out⟩⟩

end Go.Proofs.YtjfoagmenehapaaGreatDoor.Tree

namespace Go.Proofs.YtjfoagmenehapaaGreatDoor.Tree
open Go.RowKit Go.Joins

set_option maxHeartbeats 1000000 in
set_option maxRecDepth 100000 in
theorem cls_none : ClsAt ⟨#[110, 111, 110, 101]⟩ (fun _ => false) := by
  intro x W hs hnm
  have hB0 : Below W.heap.size W (W.alloc (.cells #[.int .i64 x.k, .string x.nm, .slice x.a x.ks.len x.cap] 29)) := below_alloc1 _ _
  clear hs hnm
  show Calls _ _ _ _ fun e W' => e = .returned (.bool false) ∧ _
  go_enter Tryz.func41, Tryz.ntmps41
  go_wp2_with fail
  go_ret
  exact ⟨rfl, hB0⟩

/-- The classes, by their texts. -/
def clsT : List (List UInt8 × (Kn → Bool)) := [
  ([101], fun x => eK x.k),
  ([112], fun x => pK x.k),
  ([116], fun x => tK x.k),
  ([100], fun x => dK x.k),
  ([116, 111, 112], fun x => topK x.k),
  ([111, 112, 101, 114], fun x => (x.k == 1 || x.k == 2)),
  ([112, 111, 112], fun x => (x.k == 32 && x.ks.len == 0)),
  ([113, 117, 97, 108], fun x => (x.k == 22 || x.k == 23)),
  ([98, 111, 117, 110, 100], fun x => bndB x),
  ([108, 101, 118, 101, 108], fun x => (x.k == 3 && x.nm.size == 1)),
  ([110, 97, 109, 101, 115], fun x => plainB x.k x.nm),
  ([101, 120, 112, 111, 114, 116, 115], fun x => x.k == 70),
  ([97, 108, 116], fun x => x.k == 19),
  ([114, 104, 115], fun x => x.k == 20),
  ([103, 117, 97, 114, 100], fun x => x.k == 21),
  ([116, 118, 97, 114], fun x => x.k == 50),
  ([115, 105, 103], fun x => x.k == 60),
  ([99, 108, 97, 117, 115, 101], fun x => x.k == 61),
  ([99, 111, 110, 115, 116, 114], fun x => x.k == 64),
  ([105, 109, 112, 111, 114, 116], fun x => x.k == 67),
  ([99, 111, 110, 116, 101, 120, 116], fun x => x.k == 69),
  ([105, 116, 101, 109], fun x => x.k == 71)]
def cqF (p : ByteArray) : Kn → Bool := match clsT.find? (fun e => e.1 == Lib.trimRightS p.data.toList [43, 42]) with
  | some e => e.2
  | none => fun _ => false
theorem part_altP : (⟨#[97, 108, 116, 43]⟩ : ByteArray).size ≤ 1000 ∧ ClsAt (trimP ⟨#[97, 108, 116, 43]⟩) (cqF ⟨#[97, 108, 116, 43]⟩) ∧ (starP ⟨#[97, 108, 116, 43]⟩ = true → ((⟨#[97, 108, 116, 43]⟩ : ByteArray).toList == (trimP ⟨#[97, 108, 116, 43]⟩).toList) = false) := by
  have e : trimP ⟨#[97, 108, 116, 43]⟩ = ⟨#[97, 108, 116]⟩ := by kernel_rfl
  refine ⟨by decide, ?_, by intro h; exact absurd h (by decide)⟩
  rw [e]
  exact cls_alt
theorem part_boundS : (⟨#[98, 111, 117, 110, 100, 42]⟩ : ByteArray).size ≤ 1000 ∧ ClsAt (trimP ⟨#[98, 111, 117, 110, 100, 42]⟩) (cqF ⟨#[98, 111, 117, 110, 100, 42]⟩) ∧ (starP ⟨#[98, 111, 117, 110, 100, 42]⟩ = true → ((⟨#[98, 111, 117, 110, 100, 42]⟩ : ByteArray).toList == (trimP ⟨#[98, 111, 117, 110, 100, 42]⟩).toList) = false) := by
  have e : trimP ⟨#[98, 111, 117, 110, 100, 42]⟩ = ⟨#[98, 111, 117, 110, 100]⟩ := by kernel_rfl
  refine ⟨by decide, ?_, by intro _; rw [e]; kernel_rfl⟩
  rw [e]
  exact cls_bound
theorem part_clauseS : (⟨#[99, 108, 97, 117, 115, 101, 42]⟩ : ByteArray).size ≤ 1000 ∧ ClsAt (trimP ⟨#[99, 108, 97, 117, 115, 101, 42]⟩) (cqF ⟨#[99, 108, 97, 117, 115, 101, 42]⟩) ∧ (starP ⟨#[99, 108, 97, 117, 115, 101, 42]⟩ = true → ((⟨#[99, 108, 97, 117, 115, 101, 42]⟩ : ByteArray).toList == (trimP ⟨#[99, 108, 97, 117, 115, 101, 42]⟩).toList) = false) := by
  have e : trimP ⟨#[99, 108, 97, 117, 115, 101, 42]⟩ = ⟨#[99, 108, 97, 117, 115, 101]⟩ := by kernel_rfl
  refine ⟨by decide, ?_, by intro _; rw [e]; kernel_rfl⟩
  rw [e]
  exact cls_clause
theorem part_constrP : (⟨#[99, 111, 110, 115, 116, 114, 43]⟩ : ByteArray).size ≤ 1000 ∧ ClsAt (trimP ⟨#[99, 111, 110, 115, 116, 114, 43]⟩) (cqF ⟨#[99, 111, 110, 115, 116, 114, 43]⟩) ∧ (starP ⟨#[99, 111, 110, 115, 116, 114, 43]⟩ = true → ((⟨#[99, 111, 110, 115, 116, 114, 43]⟩ : ByteArray).toList == (trimP ⟨#[99, 111, 110, 115, 116, 114, 43]⟩).toList) = false) := by
  have e : trimP ⟨#[99, 111, 110, 115, 116, 114, 43]⟩ = ⟨#[99, 111, 110, 115, 116, 114]⟩ := by kernel_rfl
  refine ⟨by decide, ?_, by intro h; exact absurd h (by decide)⟩
  rw [e]
  exact cls_constr
theorem part_context : (⟨#[99, 111, 110, 116, 101, 120, 116]⟩ : ByteArray).size ≤ 1000 ∧ ClsAt (trimP ⟨#[99, 111, 110, 116, 101, 120, 116]⟩) (cqF ⟨#[99, 111, 110, 116, 101, 120, 116]⟩) ∧ (starP ⟨#[99, 111, 110, 116, 101, 120, 116]⟩ = true → ((⟨#[99, 111, 110, 116, 101, 120, 116]⟩ : ByteArray).toList == (trimP ⟨#[99, 111, 110, 116, 101, 120, 116]⟩).toList) = false) := by
  have e : trimP ⟨#[99, 111, 110, 116, 101, 120, 116]⟩ = ⟨#[99, 111, 110, 116, 101, 120, 116]⟩ := by kernel_rfl
  refine ⟨by decide, ?_, by intro h; exact absurd h (by decide)⟩
  rw [e]
  exact cls_context
theorem part_dS : (⟨#[100, 42]⟩ : ByteArray).size ≤ 1000 ∧ ClsAt (trimP ⟨#[100, 42]⟩) (cqF ⟨#[100, 42]⟩) ∧ (starP ⟨#[100, 42]⟩ = true → ((⟨#[100, 42]⟩ : ByteArray).toList == (trimP ⟨#[100, 42]⟩).toList) = false) := by
  have e : trimP ⟨#[100, 42]⟩ = ⟨#[100]⟩ := by kernel_rfl
  refine ⟨by decide, ?_, by intro _; rw [e]; kernel_rfl⟩
  rw [e]
  exact cls_d
theorem part_e : (⟨#[101]⟩ : ByteArray).size ≤ 1000 ∧ ClsAt (trimP ⟨#[101]⟩) (cqF ⟨#[101]⟩) ∧ (starP ⟨#[101]⟩ = true → ((⟨#[101]⟩ : ByteArray).toList == (trimP ⟨#[101]⟩).toList) = false) := by
  have e : trimP ⟨#[101]⟩ = ⟨#[101]⟩ := by kernel_rfl
  refine ⟨by decide, ?_, by intro h; exact absurd h (by decide)⟩
  rw [e]
  exact cls_e
theorem part_eS : (⟨#[101, 42]⟩ : ByteArray).size ≤ 1000 ∧ ClsAt (trimP ⟨#[101, 42]⟩) (cqF ⟨#[101, 42]⟩) ∧ (starP ⟨#[101, 42]⟩ = true → ((⟨#[101, 42]⟩ : ByteArray).toList == (trimP ⟨#[101, 42]⟩).toList) = false) := by
  have e : trimP ⟨#[101, 42]⟩ = ⟨#[101]⟩ := by kernel_rfl
  refine ⟨by decide, ?_, by intro _; rw [e]; kernel_rfl⟩
  rw [e]
  exact cls_e
theorem part_eP : (⟨#[101, 43]⟩ : ByteArray).size ≤ 1000 ∧ ClsAt (trimP ⟨#[101, 43]⟩) (cqF ⟨#[101, 43]⟩) ∧ (starP ⟨#[101, 43]⟩ = true → ((⟨#[101, 43]⟩ : ByteArray).toList == (trimP ⟨#[101, 43]⟩).toList) = false) := by
  have e : trimP ⟨#[101, 43]⟩ = ⟨#[101]⟩ := by kernel_rfl
  refine ⟨by decide, ?_, by intro h; exact absurd h (by decide)⟩
  rw [e]
  exact cls_e
theorem part_exports : (⟨#[101, 120, 112, 111, 114, 116, 115]⟩ : ByteArray).size ≤ 1000 ∧ ClsAt (trimP ⟨#[101, 120, 112, 111, 114, 116, 115]⟩) (cqF ⟨#[101, 120, 112, 111, 114, 116, 115]⟩) ∧ (starP ⟨#[101, 120, 112, 111, 114, 116, 115]⟩ = true → ((⟨#[101, 120, 112, 111, 114, 116, 115]⟩ : ByteArray).toList == (trimP ⟨#[101, 120, 112, 111, 114, 116, 115]⟩).toList) = false) := by
  have e : trimP ⟨#[101, 120, 112, 111, 114, 116, 115]⟩ = ⟨#[101, 120, 112, 111, 114, 116, 115]⟩ := by kernel_rfl
  refine ⟨by decide, ?_, by intro h; exact absurd h (by decide)⟩
  rw [e]
  exact cls_exports
theorem part_guardP : (⟨#[103, 117, 97, 114, 100, 43]⟩ : ByteArray).size ≤ 1000 ∧ ClsAt (trimP ⟨#[103, 117, 97, 114, 100, 43]⟩) (cqF ⟨#[103, 117, 97, 114, 100, 43]⟩) ∧ (starP ⟨#[103, 117, 97, 114, 100, 43]⟩ = true → ((⟨#[103, 117, 97, 114, 100, 43]⟩ : ByteArray).toList == (trimP ⟨#[103, 117, 97, 114, 100, 43]⟩).toList) = false) := by
  have e : trimP ⟨#[103, 117, 97, 114, 100, 43]⟩ = ⟨#[103, 117, 97, 114, 100]⟩ := by kernel_rfl
  refine ⟨by decide, ?_, by intro h; exact absurd h (by decide)⟩
  rw [e]
  exact cls_guard
theorem part_importS : (⟨#[105, 109, 112, 111, 114, 116, 42]⟩ : ByteArray).size ≤ 1000 ∧ ClsAt (trimP ⟨#[105, 109, 112, 111, 114, 116, 42]⟩) (cqF ⟨#[105, 109, 112, 111, 114, 116, 42]⟩) ∧ (starP ⟨#[105, 109, 112, 111, 114, 116, 42]⟩ = true → ((⟨#[105, 109, 112, 111, 114, 116, 42]⟩ : ByteArray).toList == (trimP ⟨#[105, 109, 112, 111, 114, 116, 42]⟩).toList) = false) := by
  have e : trimP ⟨#[105, 109, 112, 111, 114, 116, 42]⟩ = ⟨#[105, 109, 112, 111, 114, 116]⟩ := by kernel_rfl
  refine ⟨by decide, ?_, by intro _; rw [e]; kernel_rfl⟩
  rw [e]
  exact cls_import
theorem part_itemS : (⟨#[105, 116, 101, 109, 42]⟩ : ByteArray).size ≤ 1000 ∧ ClsAt (trimP ⟨#[105, 116, 101, 109, 42]⟩) (cqF ⟨#[105, 116, 101, 109, 42]⟩) ∧ (starP ⟨#[105, 116, 101, 109, 42]⟩ = true → ((⟨#[105, 116, 101, 109, 42]⟩ : ByteArray).toList == (trimP ⟨#[105, 116, 101, 109, 42]⟩).toList) = false) := by
  have e : trimP ⟨#[105, 116, 101, 109, 42]⟩ = ⟨#[105, 116, 101, 109]⟩ := by kernel_rfl
  refine ⟨by decide, ?_, by intro _; rw [e]; kernel_rfl⟩
  rw [e]
  exact cls_item
theorem part_level : (⟨#[108, 101, 118, 101, 108]⟩ : ByteArray).size ≤ 1000 ∧ ClsAt (trimP ⟨#[108, 101, 118, 101, 108]⟩) (cqF ⟨#[108, 101, 118, 101, 108]⟩) ∧ (starP ⟨#[108, 101, 118, 101, 108]⟩ = true → ((⟨#[108, 101, 118, 101, 108]⟩ : ByteArray).toList == (trimP ⟨#[108, 101, 118, 101, 108]⟩).toList) = false) := by
  have e : trimP ⟨#[108, 101, 118, 101, 108]⟩ = ⟨#[108, 101, 118, 101, 108]⟩ := by kernel_rfl
  refine ⟨by decide, ?_, by intro h; exact absurd h (by decide)⟩
  rw [e]
  exact cls_level
theorem part_names : (⟨#[110, 97, 109, 101, 115]⟩ : ByteArray).size ≤ 1000 ∧ ClsAt (trimP ⟨#[110, 97, 109, 101, 115]⟩) (cqF ⟨#[110, 97, 109, 101, 115]⟩) ∧ (starP ⟨#[110, 97, 109, 101, 115]⟩ = true → ((⟨#[110, 97, 109, 101, 115]⟩ : ByteArray).toList == (trimP ⟨#[110, 97, 109, 101, 115]⟩).toList) = false) := by
  have e : trimP ⟨#[110, 97, 109, 101, 115]⟩ = ⟨#[110, 97, 109, 101, 115]⟩ := by kernel_rfl
  refine ⟨by decide, ?_, by intro h; exact absurd h (by decide)⟩
  rw [e]
  exact cls_names
theorem part_none : (⟨#[110, 111, 110, 101]⟩ : ByteArray).size ≤ 1000 ∧ ClsAt (trimP ⟨#[110, 111, 110, 101]⟩) (cqF ⟨#[110, 111, 110, 101]⟩) ∧ (starP ⟨#[110, 111, 110, 101]⟩ = true → ((⟨#[110, 111, 110, 101]⟩ : ByteArray).toList == (trimP ⟨#[110, 111, 110, 101]⟩).toList) = false) := by
  have e : trimP ⟨#[110, 111, 110, 101]⟩ = ⟨#[110, 111, 110, 101]⟩ := by kernel_rfl
  refine ⟨by decide, ?_, by intro h; exact absurd h (by decide)⟩
  rw [e]
  exact cls_none
theorem part_p : (⟨#[112]⟩ : ByteArray).size ≤ 1000 ∧ ClsAt (trimP ⟨#[112]⟩) (cqF ⟨#[112]⟩) ∧ (starP ⟨#[112]⟩ = true → ((⟨#[112]⟩ : ByteArray).toList == (trimP ⟨#[112]⟩).toList) = false) := by
  have e : trimP ⟨#[112]⟩ = ⟨#[112]⟩ := by kernel_rfl
  refine ⟨by decide, ?_, by intro h; exact absurd h (by decide)⟩
  rw [e]
  exact cls_p
theorem part_pS : (⟨#[112, 42]⟩ : ByteArray).size ≤ 1000 ∧ ClsAt (trimP ⟨#[112, 42]⟩) (cqF ⟨#[112, 42]⟩) ∧ (starP ⟨#[112, 42]⟩ = true → ((⟨#[112, 42]⟩ : ByteArray).toList == (trimP ⟨#[112, 42]⟩).toList) = false) := by
  have e : trimP ⟨#[112, 42]⟩ = ⟨#[112]⟩ := by kernel_rfl
  refine ⟨by decide, ?_, by intro _; rw [e]; kernel_rfl⟩
  rw [e]
  exact cls_p
theorem part_pP : (⟨#[112, 43]⟩ : ByteArray).size ≤ 1000 ∧ ClsAt (trimP ⟨#[112, 43]⟩) (cqF ⟨#[112, 43]⟩) ∧ (starP ⟨#[112, 43]⟩ = true → ((⟨#[112, 43]⟩ : ByteArray).toList == (trimP ⟨#[112, 43]⟩).toList) = false) := by
  have e : trimP ⟨#[112, 43]⟩ = ⟨#[112]⟩ := by kernel_rfl
  refine ⟨by decide, ?_, by intro h; exact absurd h (by decide)⟩
  rw [e]
  exact cls_p
theorem part_qualP : (⟨#[113, 117, 97, 108, 43]⟩ : ByteArray).size ≤ 1000 ∧ ClsAt (trimP ⟨#[113, 117, 97, 108, 43]⟩) (cqF ⟨#[113, 117, 97, 108, 43]⟩) ∧ (starP ⟨#[113, 117, 97, 108, 43]⟩ = true → ((⟨#[113, 117, 97, 108, 43]⟩ : ByteArray).toList == (trimP ⟨#[113, 117, 97, 108, 43]⟩).toList) = false) := by
  have e : trimP ⟨#[113, 117, 97, 108, 43]⟩ = ⟨#[113, 117, 97, 108]⟩ := by kernel_rfl
  refine ⟨by decide, ?_, by intro h; exact absurd h (by decide)⟩
  rw [e]
  exact cls_qual
theorem part_rhs : (⟨#[114, 104, 115]⟩ : ByteArray).size ≤ 1000 ∧ ClsAt (trimP ⟨#[114, 104, 115]⟩) (cqF ⟨#[114, 104, 115]⟩) ∧ (starP ⟨#[114, 104, 115]⟩ = true → ((⟨#[114, 104, 115]⟩ : ByteArray).toList == (trimP ⟨#[114, 104, 115]⟩).toList) = false) := by
  have e : trimP ⟨#[114, 104, 115]⟩ = ⟨#[114, 104, 115]⟩ := by kernel_rfl
  refine ⟨by decide, ?_, by intro h; exact absurd h (by decide)⟩
  rw [e]
  exact cls_rhs
theorem part_sigS : (⟨#[115, 105, 103, 42]⟩ : ByteArray).size ≤ 1000 ∧ ClsAt (trimP ⟨#[115, 105, 103, 42]⟩) (cqF ⟨#[115, 105, 103, 42]⟩) ∧ (starP ⟨#[115, 105, 103, 42]⟩ = true → ((⟨#[115, 105, 103, 42]⟩ : ByteArray).toList == (trimP ⟨#[115, 105, 103, 42]⟩).toList) = false) := by
  have e : trimP ⟨#[115, 105, 103, 42]⟩ = ⟨#[115, 105, 103]⟩ := by kernel_rfl
  refine ⟨by decide, ?_, by intro _; rw [e]; kernel_rfl⟩
  rw [e]
  exact cls_sig
theorem part_t : (⟨#[116]⟩ : ByteArray).size ≤ 1000 ∧ ClsAt (trimP ⟨#[116]⟩) (cqF ⟨#[116]⟩) ∧ (starP ⟨#[116]⟩ = true → ((⟨#[116]⟩ : ByteArray).toList == (trimP ⟨#[116]⟩).toList) = false) := by
  have e : trimP ⟨#[116]⟩ = ⟨#[116]⟩ := by kernel_rfl
  refine ⟨by decide, ?_, by intro h; exact absurd h (by decide)⟩
  rw [e]
  exact cls_t
theorem part_tS : (⟨#[116, 42]⟩ : ByteArray).size ≤ 1000 ∧ ClsAt (trimP ⟨#[116, 42]⟩) (cqF ⟨#[116, 42]⟩) ∧ (starP ⟨#[116, 42]⟩ = true → ((⟨#[116, 42]⟩ : ByteArray).toList == (trimP ⟨#[116, 42]⟩).toList) = false) := by
  have e : trimP ⟨#[116, 42]⟩ = ⟨#[116]⟩ := by kernel_rfl
  refine ⟨by decide, ?_, by intro _; rw [e]; kernel_rfl⟩
  rw [e]
  exact cls_t
theorem part_tP : (⟨#[116, 43]⟩ : ByteArray).size ≤ 1000 ∧ ClsAt (trimP ⟨#[116, 43]⟩) (cqF ⟨#[116, 43]⟩) ∧ (starP ⟨#[116, 43]⟩ = true → ((⟨#[116, 43]⟩ : ByteArray).toList == (trimP ⟨#[116, 43]⟩).toList) = false) := by
  have e : trimP ⟨#[116, 43]⟩ = ⟨#[116]⟩ := by kernel_rfl
  refine ⟨by decide, ?_, by intro h; exact absurd h (by decide)⟩
  rw [e]
  exact cls_t
theorem part_topS : (⟨#[116, 111, 112, 42]⟩ : ByteArray).size ≤ 1000 ∧ ClsAt (trimP ⟨#[116, 111, 112, 42]⟩) (cqF ⟨#[116, 111, 112, 42]⟩) ∧ (starP ⟨#[116, 111, 112, 42]⟩ = true → ((⟨#[116, 111, 112, 42]⟩ : ByteArray).toList == (trimP ⟨#[116, 111, 112, 42]⟩).toList) = false) := by
  have e : trimP ⟨#[116, 111, 112, 42]⟩ = ⟨#[116, 111, 112]⟩ := by kernel_rfl
  refine ⟨by decide, ?_, by intro _; rw [e]; kernel_rfl⟩
  rw [e]
  exact cls_top
theorem part_tvar : (⟨#[116, 118, 97, 114]⟩ : ByteArray).size ≤ 1000 ∧ ClsAt (trimP ⟨#[116, 118, 97, 114]⟩) (cqF ⟨#[116, 118, 97, 114]⟩) ∧ (starP ⟨#[116, 118, 97, 114]⟩ = true → ((⟨#[116, 118, 97, 114]⟩ : ByteArray).toList == (trimP ⟨#[116, 118, 97, 114]⟩).toList) = false) := by
  have e : trimP ⟨#[116, 118, 97, 114]⟩ = ⟨#[116, 118, 97, 114]⟩ := by kernel_rfl
  refine ⟨by decide, ?_, by intro h; exact absurd h (by decide)⟩
  rw [e]
  exact cls_tvar

end Go.Proofs.YtjfoagmenehapaaGreatDoor.Tree

namespace Go.Proofs.YtjfoagmenehapaaGreatDoor.Tree
open Go.RowKit Go.Shelf Go.Joins

attribute [local go_sem] Oper.semAt_some

theorem Hold.abidX {w : World} {c : Nat} {X O O' : Nat → Prop} {A B : World} {v : Value} (h : Hold w c v O A) (hcX : ¬ X c) (hX : ∀ b, X b → w.heap.size ≤ b) (hK : Kept (fun b => ¬ (O b ∨ X b)) A B) (hn : ∀ b, O' b → O b ∨ A.heap.size ≤ b) : Hold w c v O' B := by
  obtain ⟨h1, h2, h3, h4, h5⟩ := h
  have hl : c < A.heap.size := block_lt_of_cell h1
  have hc : ¬ (O c ∨ X c) := fun x => x.elim h3 hcX
  refine ⟨(hK.cell (p := ⟨c, 0, none⟩) hl hc).trans h1, (hK.frozen (p := ⟨c, 0, none⟩) hl hc).trans h2, fun x => ?_, Below.kept h4 hK (fun b hb x => ?_) (Nat.le_refl _), fun b x => ?_⟩
  · rcases hn c x with y | y
    · exact h3 y
    · omega
  · rcases x with x | x
    · have := h5 b x; omega
    · have := hX b x; omega
  · rcases hn b x with y | y
    · exact h5 b y
    · have := h4.size; omega

set_option maxHeartbeats 1000000 in
theorem splitSeq1_in (n : Nat) (s t : ByteArray) (k : Int) (w : World) :
    CallsIn Fence.wide n Tryz.prog 42 #[.string s, .string t, .int .i64 k] w fun e w' => e = .returned (.func (.func 69) #[] #[.pointer (some ⟨w.heap.size + 1, 0, none⟩), .pointer (some ⟨w.heap.size, 0, none⟩), .pointer (some ⟨w.heap.size + 1 + 1, 0, none⟩)]) ∧ w' = ((w.alloc (.cells #[.string s] 9)).alloc (.cells #[.string t] 9)).alloc (.cells #[.int .i64 k] 3) := by
  refine callsIn_of_wp Tryz.func42 rfl trivial ?_ rfl
  simp only [Tryz.ntmps42, List.size_toArray, List.length_cons, List.length_nil, Nat.reduceAdd, Nat.reduceSub, Array.replicate_succ, Array.replicate_zero, List.push_toArray, List.append_toArray, List.nil_append, List.cons_append]
  gi_wp2_with fail
  exact bodyPost_ret (results_tmp rfl _ _ _) rfl ⟨rfl, rfl⟩

set_option maxHeartbeats 1000000 in
theorem splitSeq_in (n : Nat) (s : ByteArray) (w : World) :
    CallsIn Fence.wide n Tryz.prog 27 #[.string s, .string ⟨#[124]⟩] w fun e w' => e = .returned (.func (.func 69) #[] #[.pointer (some ⟨w.heap.size + 1, 0, none⟩), .pointer (some ⟨w.heap.size, 0, none⟩), .pointer (some ⟨w.heap.size + 1 + 1, 0, none⟩)]) ∧ w' = ((w.alloc (.cells #[.string s] 9)).alloc (.cells #[.string ⟨#[124]⟩] 9)).alloc (.cells #[.int .i64 0] 3) := by
  refine callsIn_of_wp Tryz.func27 rfl trivial ?_ rfl
  simp only [Tryz.ntmps27, List.size_toArray, List.length_cons, List.length_nil, Nat.reduceAdd, Nat.reduceSub, Array.replicate_succ, Array.replicate_zero, List.push_toArray, List.append_toArray, List.nil_append, List.cons_append]
  gi_wp2_with (refine ⟨trivial, fun h => (by cases h), ?_⟩; gi_at_call 42; refine (splitSeq1_in (n - 1) _ _ _ _).mono ?_; rintro e w' ⟨rfl, rfl⟩)
  exact bodyPost_ret (results_tmp rfl _ _ _) rfl ⟨rfl, rfl⟩

/-- Whether one of the shapes fits. -/
def anyS (LL : List ByteArray) (L : List Kn) : Bool := LL.any (fun p => shp cqF (remF p p.size 0 none) L)

/-- What the parts of a shape have to be. -/
def Good (LL : List ByteArray) : Prop := ∀ p, p ∈ LL → p.size ≤ 1000 ∧ (∀ i, i < p.size → (by8 p i).toNat < 128) ∧ ∀ q, q ∈ remF p p.size 0 none → q.size ≤ 1000 ∧ ClsAt (trimP q) (cqF q) ∧ (starP q = true → (q.toList == (trimP q).toList) = false)

def KfI (w : World) (k : Int) (nm : ByteArray) (a : Option Addr) (m cap : Nat) (LL : List ByteArray) (L : List Kn) (T : Bool) (i : Nat) (O : Nat → Prop) (W : World) : Prop :=
  Box3 W w.heap.size (.int .i64 k) (.string nm) (.slice a m cap) ∧ ¬ O w.heap.size ∧ Hold w (w.heap.size + 1) (.bool false) O W ∧ T = anyS (LL.drop i) L
def KfX (w : World) (T : Bool) (cd : Code) (_ : Nat) (O : Nat → Prop) (W : World) : Prop := cd = .ret ∧ Hold w (w.heap.size + 1) (.bool true) O W ∧ T = true

theorem KfI.abid (w : World) (k : Int) (nm : ByteArray) (a : Option Addr) (m cap : Nat) (LL : List ByteArray) (L : List Kn) (T : Bool) : AbidX (fun b => b = w.heap.size + 1 + 1) (KfI w k nm a m cap LL L T) := fun _ O O' A B h hK hn => by
  obtain ⟨h1, h2, h3, h4⟩ := h
  refine ⟨h1.kept hK (fun x => x.elim h2 (fun e => by omega)), fun x => ?_, h3.abidX (fun e => by omega) (fun b e => by omega) hK hn, h4⟩
  rcases hn _ x with y | y
  · exact h2 y
  · have := h1.lt; omega
theorem KfX.abid (w : World) (T : Bool) (cd : Code) : AbidX (fun b => b = w.heap.size + 1 + 1) (KfX w T cd) := fun _ _ _ _ _ h hK hn => ⟨h.1, h.2.1.abidX (fun e => by omega) (fun b e => by omega) hK hn, h.2.2⟩

set_option maxRecDepth 100000 in
set_option maxHeartbeats 4000000 in
theorem ikids_in (n : Nat) (hn : 6 ≤ n) (s : ByteArray) (k : Int) (nm : ByteArray) (a : Option Addr) (m cap : Nat) (L : List Kn) (w : World) (hk18 : k ≠ 18) (hk41 : k ≠ 41) (hsh : ∀ wx, Calls Tryz.prog 28 #[.int .i64 k] wx fun e w' => e = .returned (.string s) ∧ w' = wx)
    (hl : L.length = m) (hmc : m ≤ cap) (hcm : cap ≤ maxLen) (hk : Kids w w.heap.size a L) (htb : TbAt w) (hsz : s.size ≤ 1000) (hgd : Good (splF (s.size + 1) s)) :
    CallsIn Fence.wide n Tryz.prog 17 #[.agg #[.int .i64 k, .string nm, .slice a m cap]] w fun e W' => e = .returned (.bool (anyS (splF (s.size + 1) s) L)) ∧ Below w.heap.size w W' := by
  have h1 : 1 ≤ n := by omega
  obtain ⟨T, hT⟩ : ∃ T, T = anyS (splF (s.size + 1) s) L := ⟨_, rfl⟩
  rw [← hT]
  have z18 : (k == 18) = false := beq_eq_false_iff_ne.2 hk18
  have z41 : (k == 41) = false := beq_eq_false_iff_ne.2 hk41
  have HSH : Hid (∀ wx, Calls Tryz.prog 28 #[.int .i64 k] wx fun e w' => e = .returned (.string s) ∧ w' = wx) := hsh
  clear hk18 hk41 hsh
  refine callsIn_of_wp_marks Tryz.func17 rfl trivial ?_ rfl
  simp only [Tryz.ntmps17, List.size_toArray, List.length_cons, List.length_nil, Nat.reduceAdd, Nat.reduceSub, Array.replicate_succ, Array.replicate_zero, List.push_toArray, List.append_toArray, List.nil_append, List.cons_append]
  gi_wp2_with (refine ⟨trivial, ?_⟩; gi_at_call 28; refine (callsIn_wide.2 (HSH.out _)).mono ?_; rintro e w' ⟨rfl, rfl⟩)
  gi_wp2_with (refine ⟨trivial, ?_⟩; gi_at_call 27; refine (splitSeq_in (n - 1) _ _).mono ?_; rintro e w' ⟨rfl, rfl⟩)
  obtain ⟨A, hA⟩ : ∃ A, w.alloc (.cells #[.int .i64 k, .string nm, .slice a m cap] 29) = A := ⟨_, rfl⟩
  have zA : A.heap.size = w.heap.size + 1 := by rw [← hA]; simp
  have bA : Below w.heap.size w A := by rw [← hA]; exact below_alloc1 _ _
  obtain ⟨B, hB⟩ : ∃ B, A.alloc (.cells #[.bool false] 4) = B := ⟨_, rfl⟩
  have zB : B.heap.size = w.heap.size + 1 + 1 := by rw [← hB]; simp [zA]
  have bB : Below A.heap.size A B := by rw [← hB]; exact below_alloc1 _ _
  obtain ⟨W0, hW0⟩ : ∃ W0, ((B.alloc (.cells #[.string s] 9)).alloc (.cells #[.string ⟨#[124]⟩] 9)).alloc (.cells #[.int .i64 0] 3) = W0 := ⟨_, rfl⟩
  have z0 : W0.heap.size = w.heap.size + 5 := by rw [← hW0]; simp [zB]
  have bW : Below B.heap.size B W0 := by rw [← hW0]; exact below_alloc3 _ _ _ _
  have h1c : ∀ (A : World) (v : Value) (t : TypeId), (A.alloc (.cells #[v] t)).cell? ⟨A.heap.size, 0, none⟩ = some v ∧ (A.alloc (.cells #[v] t)).frozen? ⟨A.heap.size, 0, none⟩ = false := fun A v t => ⟨by simp, by simp⟩
  have hB0 : Below w.heap.size w W0 := (bA.trans (bB.mono bA.size)).trans (bW.mono (by omega))
  have q0 : Box3 W0 w.heap.size (.int .i64 k) (.string nm) (.slice a m cap) := by
    have h2 := Box3.new w (.int .i64 k) (.string nm) (.slice a m cap) 29
    rw [hA] at h2
    exact (h2.below bB (by omega)).below bW (by omega)
  have hr0 : Hold w (w.heap.size + 1) (.bool false) (fun _ => False) W0 := by
    have h2 := h1c A (.bool false) 4
    rw [hB, zA] at h2
    exact ⟨(bW.cell (p := ⟨w.heap.size + 1, 0, none⟩) (by show w.heap.size + 1 < _; omega)).trans h2.1, (bW.frozen (p := ⟨w.heap.size + 1, 0, none⟩) (by show w.heap.size + 1 < _; omega)).trans h2.2, fun z => z, hB0, fun _ z => z.elim⟩
  have hs0 : W0.cell? ⟨w.heap.size + 1 + 1, 0, none⟩ = some (.string s) ∧ W0.frozen? ⟨w.heap.size + 1 + 1, 0, none⟩ = false := by
    have h2 := h1c B (.string s) 9
    rw [zB] at h2
    have hcl := below_alloc2 (B.alloc (.cells #[.string s] 9)) (.cells #[.string ⟨#[124]⟩] 9) (.cells #[.int .i64 0] 3)
    rw [hW0, World.size_alloc, zB] at hcl
    exact ⟨(hcl.cell (p := ⟨w.heap.size + 1 + 1, 0, none⟩) (by simp)).trans h2.1, (hcl.frozen (p := ⟨w.heap.size + 1 + 1, 0, none⟩) (by simp)).trans h2.2⟩
  have hp0 : W0.cell? ⟨w.heap.size + 1 + 1 + 1, 0, none⟩ = some (.string ⟨#[124]⟩) := by
    have h2 := h1c (B.alloc (.cells #[.string s] 9)) (.string ⟨#[124]⟩) 9
    rw [World.size_alloc, zB] at h2
    have hcl := below_alloc1 ((B.alloc (.cells #[.string s] 9)).alloc (.cells #[.string ⟨#[124]⟩] 9)) (.cells #[.int .i64 0] 3)
    rw [hW0, World.size_alloc, World.size_alloc, zB] at hcl
    exact (hcl.cell (p := ⟨w.heap.size + 1 + 1 + 1, 0, none⟩) (by simp)).trans h2.1
  have hv0 : W0.cell? ⟨w.heap.size + 1 + 1 + 1 + 1, 0, none⟩ = some (.int .i64 0) := by
    have h2 := h1c ((B.alloc (.cells #[.string s] 9)).alloc (.cells #[.string ⟨#[124]⟩] 9)) (.int .i64 0) 3
    rw [World.size_alloc, World.size_alloc, zB, hW0] at h2
    exact h2.1
  obtain ⟨LL, hLL⟩ : ∃ LL, LL = splF (s.size + 1) s := ⟨_, rfl⟩
  have hI0 : KfI w k nm a m cap LL L T 0 (fun _ => False) W0 := ⟨q0, fun z => z, hr0, by rw [hT, hLL]; rfl⟩
  have hseq := split_seq (n - 1) (by omega) (w.heap.size + 1 + 1) (w.heap.size + 1 + 1 + 1) (w.heap.size + 1 + 1 + 1 + 1) s (fun b => b < w.heap.size ∨ (w.heap.size + 1 + 1 ≤ b ∧ b ≤ w.heap.size + 1 + 1 + 1 + 1)) W0 (.inr ⟨by omega, by omega⟩) (.inr ⟨by omega, by omega⟩) (.inr ⟨by omega, by omega⟩) (by omega) (by omega) hs0.1 hs0.2 hp0 hv0 hsz
  rw [← hLL] at hseq hgd
  have HG := hide hgd
  have HT0 := hide hT
  rw [hA, hB, hW0]
  clear hW0 hA hB h1c hr0 hs0 hp0 hv0 hgd hT hLL bA bB bW zA zB HT0 HSH z18 z41
  refine wpIn_rangeX rfl h1 (gf := 69) (lb := #[.pointer (some ⟨w.heap.size + 1 + 1 + 1, 0, none⟩), .pointer (some ⟨w.heap.size + 1 + 1, 0, none⟩), .pointer (some ⟨w.heap.size + 1 + 1 + 1 + 1, 0, none⟩)]) rfl trivial (enters_of Tryz.func69 (by kernel_rfl) rfl) hseq (Below.refl _ _) (fun b hb => by rcases hb with hb | hb <;> omega) (fun b hb => by omega) (fun _ => rfl)
    (KfI w k nm a m cap LL L T) (KfX w T) (KfI.abid _ _ _ _ _ _ _ _ _) (KfX.abid _ _) hI0
    (fun i _ a' _ => ∃ u : Value, a' = { tmps := #[.agg #[.int .i64 k, .string nm, .slice a m cap], .pointer (some ⟨w.heap.size, 0, none⟩), .pointer (some ⟨w.heap.size + 1, 0, none⟩), .string (LL.getD i ⟨#[]⟩), .pointer (some ⟨w.heap.size, 0, none⟩), .int .i64 k, .bool false, .bool false, undef, undef, undef, .bool false, .bool false, undef, undef, undef,
      .pointer (some ⟨w.heap.size, 0, none⟩), .int .i64 k, .string s, .func (.func 69) #[] #[.pointer (some ⟨w.heap.size + 1 + 1 + 1, 0, none⟩), .pointer (some ⟨w.heap.size + 1 + 1, 0, none⟩), .pointer (some ⟨w.heap.size + 1 + 1 + 1 + 1, 0, none⟩)], u, undef, undef, undef, undef], defers := [] })
    ?assign ?body ?done ?stop
  case assign =>
    intro l i O W K _ _ hI hK
    have hK2 := fun u => hK _ W (Kept.refl _ _) hI ⟨u, rfl⟩
    clear hK hI
    simp only [encsT]
    generalize List.getD LL i ⟨#[]⟩ = p at hK2 ⊢
    gi_wp2
    simpa using hK2 (.string p)
  case body =>
    rintro l i O a' W1 W hi ⟨u, rfl⟩ _ _ ⟨hq, hOw, hr, hT2⟩ hO
    have hdr := List.drop_eq_getElem_cons hi
    have hgd : LL.getD i ⟨#[]⟩ = LL[i] := by rw [List.getD_eq_getElem?_getD, List.getElem?_eq_getElem hi, Option.getD_some]
    rw [hgd]
    obtain ⟨hps, hpa, hpc⟩ := HG.out LL[i] (List.getElem_mem hi)
    rw [hdr] at hT2
    generalize LL[i] = p at *
    have hT3 : T = (shp cqF (remF p p.size 0 none) L || anyS (LL.drop (i + 1)) L) := hT2
    have hbw := hr.2.2.2.1
    have H1 := hide (callsIn_wide.1 (ishaped_in 3 (Nat.le_refl _) p cqF a m cap L W hl hmc hcm (hk.at hbw) (htb.kept (Kept.of_below (S := fun _ => True) hbw (fun b hb _ => hb)) trivial) hps hpa hpc))
    have hql := hq.lt
    obtain ⟨-, d0, d1, d2, -, -, -⟩ := id hq
    clear hT2 hdr hgd hps hpa hpc HG hseq hI0
    cases hX : shp cqF (remF p p.size 0 none) L with
    | true =>
      rw [hX] at H1 hT3
      have HT4 : Hid (T = true) := hT3
      clear hX hT3
      have x4 := hr.1
      gi_wp2_with (refine ⟨trivial, fun h => (by cases h), ?_⟩; gi_at_call 29; refine (CallsIn.inRound l (callsIn_wide.2 H1.out)).mono ?_; rintro e w1 ⟨rfl, b1⟩; have r1 := hr.next b1; have y4 := r1.1; have y5 := r1.2.1)
      refine ⟨(Kept.of_below b1 (fun b hb _ => hb)).trans (Kept.setCell _ _ _ _ ?_), rfl, r1.set _ (by omega), HT4.out⟩
      rintro (h | h | h)
      · exact r1.2.2.1 h
      · exact absurd h (by show ¬ (w.heap.size + 1 < w.heap.size); omega)
      · exact absurd h.1 (by show ¬ (w.heap.size + 1 + 1 ≤ w.heap.size + 1); omega)
    | false =>
      rw [hX] at H1 hT3
      have HT4 : Hid (T = anyS (LL.drop (i + 1)) L) := hT3
      clear hX hT3
      gi_wp2_with (refine ⟨trivial, fun h => (by cases h), ?_⟩; gi_at_call 29; refine (CallsIn.inRound l (callsIn_wide.2 H1.out)).mono ?_; rintro e w1 ⟨rfl, b1⟩)
      exact ⟨Kept.of_below b1 (fun b hb _ => hb), hq.below b1 hql, hOw, hr.next b1, HT4.out⟩
  case done =>
    rintro D O W hD hOD hO ⟨hq, hOw, ⟨c1, c2, c3, c4, c5⟩, hT2⟩ hK
    have hTe : T = false := by rw [hT2, List.drop_eq_nil_of_le (Nat.le_refl _)]; rfl
    have hDc : D ≠ w.heap.size + 1 := fun e => c3 (e ▸ hOD)
    have HZ := hide hTe
    clear hT2 hTe
    gi_wp2_with fail
    have hK' := (KeepsOthers.setCell W ⟨w.heap.size + 1, 0, none⟩ (.bool false)).same D _ hK rfl
    refine ⟨by simp, .inl ⟨_, _, rfl, run_takeDeferred hK', ?_⟩⟩
    have hcell : ((W.setCell ⟨w.heap.size + 1, 0, none⟩ (.bool false)).putObj D (.deferred none)).cell? ⟨w.heap.size + 1, 0, none⟩ = some (.bool false) :=
      (World.cell?_of_block (World.putObj_heap_other (Ne.symm hDc))).trans (World.cell?_setCell_same' _ _ _ (by rw [c1]; rfl))
    rw [HZ.out]
    refine ⟨.bool false, by simp [results, Tryz.results17, go_sem, hcell], rfl, ?_⟩
    exact (c4.setCell (by show w.heap.size ≤ w.heap.size + 1; omega) _).trans (belowK_b (w := w) (Nat.le_refl _) _ D _ _ (by omega) hK' rfl rfl)
  case stop =>
    rintro D c i O W hD hOD hO hi ⟨rfl, ⟨c1, c2, c3, c4, c5⟩, ht⟩ hK
    gi_wp2_with fail
    have hDc : D ≠ w.heap.size + 1 := fun e => c3 (e ▸ hOD)
    refine ⟨by simp, .inl ⟨_, _, rfl, run_takeDeferred hK, ?_⟩⟩
    have hcell : (W.putObj D (.deferred none)).cell? ⟨w.heap.size + 1, 0, none⟩ = some (.bool true) :=
      (World.cell?_of_block (World.putObj_heap_other (Ne.symm hDc))).trans c1
    rw [ht]
    refine ⟨.bool true, by simp [results, Tryz.results17, go_sem, hcell], rfl, ?_⟩
    exact c4.trans (belowK_b (w := w) (Nat.le_refl _) _ D _ _ (by omega) hK rfl rfl)

end Go.Proofs.YtjfoagmenehapaaGreatDoor.Tree

