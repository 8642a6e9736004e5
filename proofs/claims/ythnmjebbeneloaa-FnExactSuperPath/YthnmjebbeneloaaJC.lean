import Derived.Test.YthnmjebbeneloaaJB
import Derived.Test.YthnmjebbeneloaaShelf
import Derived.ArgAppend
namespace Go.Proofs.Ythnmjebbeneloaa
open Go.RowKit Go.Joins

set_option maxRecDepth 100000 in
theorem iClone (x : ByteArray) (w : World) (hx : x.size ≤ 281474976710656) : Calls Try.prog 49 #[.string x] w fun e w' => e = .returned (.string x) ∧ Below w.heap.size w w' := by
  have := Try.stringslite_Clone x w hx
  go_enter Try.func49, Try.ntmps49
  go_wp2_with fail
  refine this.mono ?_
  rintro e w2 ⟨rfl, b2⟩
  go_wp2_with fail
  go_ret
  exact ⟨rfl, b2⟩

/-- A row of texts of its own, in a block of cells that may be written. -/
structure RB (V : World) (g : Nat) (L : List ByteArray) : Prop where
  lt : g < V.heap.size
  cel : ∀ i x, L[i]? = some x → V.cell? ⟨g, i, none⟩ = some (.string x)
  live : ∀ j, V.frozen? ⟨g, j, none⟩ = false

theorem RB.swap {V : World} {g : Nat} {L : List ByteArray} (h : RB V g L) {i j : Nat} {x y : ByteArray} (hi : L[i]? = some x) (hj : L[j]? = some y) : RB ((V.setCell ⟨g, i, none⟩ (.string y)).setCell ⟨g, j, none⟩ (.string x)) g ((L.set i y).set j x) := by
  obtain ⟨hil, -⟩ := List.getElem?_eq_some_iff.1 hi
  obtain ⟨hjl, -⟩ := List.getElem?_eq_some_iff.1 hj
  have ci := h.cel i x hi
  have cj := h.cel j y hj
  refine ⟨by simpa [World.setCell] using h.lt, fun k z hk => ?_, fun k => by rw [World.frozen?_setCell, World.frozen?_setCell]; exact h.live k⟩
  have key := (((show Bx V g (L.map Value.string) from ⟨h.lt, fun k v hv => by
      rw [List.getElem?_map] at hv
      cases hk : L[k]? with
      | none => rw [hk] at hv; cases hv
      | some z => rw [hk] at hv; cases hv; exact h.cel k z hk, h.live⟩).put i (.string y) (by simpa using hil)).put j (.string x) (by simpa using hjl)).cel k (.string z) (by
        rw [← List.map_set, ← List.map_set, List.getElem?_map, hk]
        rfl)
  exact key

theorem RB.drew {V : World} {g : Nat} {L : List ByteArray} (h : RB V g L) : RB V.drew g L := ⟨h.lt, h.cel, h.live⟩

/-- Half turned round: what is ahead of i and behind j is. -/
def Half (L C : List ByteArray) (i j : Nat) : Prop := C.length = L.length ∧ ∀ k, k < L.length → C[k]? = if k < i ∨ j < k then L[L.length - 1 - k]? else L[k]?

theorem Half.step {L C : List ByteArray} {i j : Nat} {x y : ByteArray} (h : Half L C i j) (hij : i + j = L.length - 1) (hlt : i < j) (hx : C[i]? = some x) (hy : C[j]? = some y) : Half L ((C.set i y).set j x) (i + 1) (j - 1) := by
  obtain ⟨hl, hk⟩ := h
  refine ⟨by simp [hl], fun k hkl => ?_⟩
  have e1 := hk i (by omega)
  have e2 := hk j (by omega)
  rw [hx, if_neg (by omega)] at e1
  rw [hy, if_neg (by omega)] at e2
  rw [List.getElem?_set, List.getElem?_set]
  by_cases h1 : j = k
  · subst h1
    rw [if_pos rfl, if_pos (by rw [List.length_set, hl]; omega), if_pos (by omega), show L.length - 1 - j = i by omega]
    exact e1
  · rw [if_neg h1]
    by_cases h2 : i = k
    · subst h2
      rw [if_pos rfl, if_pos (by rw [hl]; omega), if_pos (by omega), show L.length - 1 - i = j by omega]
      exact e2
    · rw [if_neg h2, hk k hkl]
      by_cases h3 : k < i ∨ j < k
      · rw [if_pos h3, if_pos (by omega)]
      · rw [if_neg h3, if_neg (by omega)]

theorem Half.done {L C : List ByteArray} {i j : Nat} (h : Half L C i j) (hij : i + j = L.length - 1) (hlt : ¬ i < j) : C = L.reverse := by
  obtain ⟨hl, hk⟩ := h
  apply List.ext_getElem?
  intro k
  by_cases hkl : k < L.length
  · rw [hk k hkl, List.getElem?_reverse hkl]
    by_cases h3 : k < i ∨ j < k
    · rw [if_pos h3]
    · rw [if_neg h3]
      congr 1
      omega
  · rw [List.getElem?_eq_none (by omega), List.getElem?_eq_none (by rw [List.length_reverse]; omega)]

set_option maxHeartbeats 2000000 in
set_option maxRecDepth 100000 in
theorem i_rev (g cap : Nat) (L : List ByteArray) (V : World) (hpos : 0 < L.length) (hlen : L.length ≤ 1048577) (h : RB V g L) :
    Calls Try.prog 50 #[.slice (some ⟨g, 0, none⟩) L.length cap] V fun e V' => e = .returned (.tuple #[]) ∧ RB V' g L.reverse ∧ Kept (fun c => c ≠ g) V V' := by
  obtain ⟨n, hn⟩ : ∃ n, n = L.length := ⟨_, rfl⟩
  rw [← hn]
  have hn1 : 1 ≤ n := by omega
  have hnx : n ≤ 1048577 := by omega
  have HH : Hid (Half L L 0 (n - 1)) := ⟨rfl, fun k hk => by rw [if_neg (by omega)]⟩
  have HRB := hide h
  have HN := hide hn
  clear h hn hpos hlen
  go_enter Try.func50, Try.ntmps50
  go_wp2_with fail
  go_loopw [2, 3] (fun s2 s3 wr => ∃ (i j : Nat) (C : List ByteArray), s2 = .int .i64 i ∧ s3 = .int .i64 j ∧ Hid (i + j = L.length - 1) ∧ i ≤ n ∧ j ≤ n ∧ Hid (Half L C i j) ∧ Hid (RB wr g C) ∧ Hid (Kept (fun c => c ≠ g) V wr)) (fun s2 _ _ => n - (intOf s2).toNat)
  case atStart => exact ⟨0, n - 1, L, rfl, by congr 1; omega, by unfold Hid; rw [← HN.out]; omega, Nat.zero_le _, by omega, HH, HRB, Kept.refl _ _⟩
  case round =>
    obtain ⟨i, j, C, rfl, rfl, hij, hin, hjn, hH, hR, hK⟩ := hrel
    by_cases hlt : i < j
    · have hltI : (i : Int) < j := by omega
      have hnn := HN.out
      have hijn := hij.out
      have hCl := hH.out.1
      obtain ⟨x, hx⟩ : ∃ x, C[i]? = some x := ⟨_, List.getElem?_eq_getElem (by omega)⟩
      obtain ⟨y, hy⟩ : ∃ y, C[j]? = some y := ⟨_, List.getElem?_eq_getElem (by omega)⟩
      have ci := hR.out.cel i x hx
      have cj := hR.out.cel j y hy
      have li := hR.out.live i
      have lj := hR.out.live j
      have hi1 : (i : Int) < n := by omega
      have hj1 : (j : Int) < n := by omega
      have hne : ¬ i = j := by omega
      have hne' : ¬ j = i := by omega
      have HH2 := hide (hH.out.step hijn hlt hx hy)
      have HR2 := hide (hR.out.swap hx hy)
      have HK2 : Hid (Kept (fun c => c ≠ g) V ((wr.setCell ⟨g, i, none⟩ (.string y)).setCell ⟨g, j, none⟩ (.string x))) := (hK.out.set (by simp)).set (by simp)
      have HIJ : Hid (i + 1 + (j - 1) = L.length - 1) := by unfold Hid; omega
      clear hH hR hK hx hy hijn hCl hij hnn
      go_wp2_with fail
      go_region
      all_goals
        go_wp2_with fail
        go_roundw
        case rel => exact ⟨i + 1, j - 1, _, by go_num, by congr 1; omega, HIJ, by omega, by omega, HH2, HR2.out.drew, HK2.out.trans (Kept.drew _ _)⟩
        case measure => simp [intOf]; omega
    · have hltI : ¬ (i : Int) < j := by omega
      have HR2 : Hid (RB wr g L.reverse) := by
        have := hH.out.done hij.out hlt
        rw [← this]
        exact hR.out
      have HK2 := hide hK.out
      clear hH hR hK hij
      go_wp2_with fail
      refine bodyPost_end (results_none rfl _ _ _) rfl ⟨rfl, HR2.out, HK2.out⟩

end Go.Proofs.Ythnmjebbeneloaa

namespace Go.Proofs.Ythnmjebbeneloaa
open Go.RowKit Go.Joins

/-- Each has the one ahead of it as what leads to it. -/
def Chain (kv : List (ByteArray × Value)) (fr : ByteArray) (p : List ByteArray) : Prop := ∀ q s r, p = q ++ s :: r → s ≠ fr ∧ getK s kv = some (.agg #[.string (wend fr q)])

theorem RB.of_row {w : World} {B g n cap : Nat} {L : List ByteArray} (h : w.ownsRow B 9 1 (.slice (some ⟨g, 0, none⟩) n cap) n (L.map Value.string)) : RB w g L ∧ n = L.length ∧ n ≤ cap ∧ cap ≤ maxLen ∧ B ≤ g := by
  have hl := h.1
  rw [List.length_map, Nat.mul_one] at hl
  rcases h.2 with ⟨e, -⟩ | ⟨g', cap', cur, e, hb, hg, hnc, hcm, hcs, ht⟩
  · cases e
  · simp only [Value.slice.injEq, Option.some.injEq, Addr.mk.injEq, and_true, true_and] at e
    obtain ⟨rfl, rfl⟩ := e
    refine ⟨⟨(Array.getElem?_eq_some_iff.1 hg).1, fun i x hx => ?_, fun j => ?_⟩, hl.symm, hnc, hcm, hb⟩
    · have h2 := h.cells (g := g) rfl i (.string x) (by rw [List.getElem?_map, hx]; rfl)
      rwa [addr_add, Nat.zero_add] at h2
    · simp [World.frozen?, hg]

theorem field62 (x : ByteArray) (w : World) : (Instr.field 62 (.agg #[.string x]) 0).run Try.prog w = .ok (.string x) w := by kernel_rfl

theorem wend_app (x : ByteArray) (q : List ByteArray) (s : ByteArray) : wend x (q ++ [s]) = s := wend_snoc x q s

set_option maxHeartbeats 2000000 in
set_option maxRecDepth 100000 in
theorem i_way (M : Nat) (kv : List (ByteArray × Value)) (fr : ByteArray) (p : List ByteArray) (W : World) (hM : MS W M kv) (hC : Chain kv fr p) (hne : p ≠ []) (hsz : ∀ s ∈ p, s.size ≤ 1048576) (hlen : p.length ≤ 1048577) :
    Calls Try.prog 27 #[.map (some M), .string fr, .string (wend fr p)] W fun e W' => ∃ g c, e = .returned (.slice (some ⟨g, 0, none⟩) p.length c) ∧ p.length ≤ c ∧ c ≤ maxLen ∧ RB W' g p ∧ W.heap.size ≤ g ∧ Below W.heap.size W W' := by
  have HM := hide hM
  have HC := hide hC
  have HNE := hide hne
  have HSZ := hide hsz
  have HLEN := hide hlen
  obtain ⟨tg, htg⟩ : ∃ tg, tg = wend fr p := ⟨_, rfl⟩
  rw [← htg]
  have HTG := hide htg
  have hml := hM.lt
  have HML := hide hml
  clear hM hC hne hsz hlen htg hml
  go_enter Try.func27, Try.ntmps27
  go_wp2_with fail
  go_loopw [7, 8] (fun s7 s8 wr => ∃ (q r : List ByteArray) (a : ByteArray) (va : Option Addr) (vn vc : Nat), s7 = .slice va vn vc ∧ s8 = .string a ∧ Hid (a = wend fr q ∧ p = q ++ r ∧ vn = r.length) ∧ Hid (wr.ownsRow W.heap.size 9 1 (.slice va vn vc) vn (r.reverse.map Value.string)) ∧ Hid (Kept (fun c => c < W.heap.size) W wr)) (fun s7 _ _ => p.length - (match s7 with | .slice _ n _ => n | _ => 0))
  case atStart => exact ⟨p, [], tg, none, 0, 0, rfl, rfl, ⟨HTG.out, (List.append_nil p).symm, rfl⟩, ⟨rfl, .inl ⟨rfl, rfl⟩⟩, Kept.refl _ _⟩
  case round =>
    obtain ⟨q, r, at_, va, vn, vc, rfl, rfl, hq, hO, hK⟩ := hrel
    rcases List.eq_nil_or_concat q with rfl | ⟨q, s, rfl⟩
    · obtain ⟨ha, hp, hvn⟩ := hq.out
      have hat : at_ = fr := ha
      subst hat
      have hp2 : p = r := hp
      subst hp2
      have hpos : 0 < p.length := List.length_pos_iff.2 HNE.out
      have hO' := hO.out
      obtain ⟨g, rfl⟩ : ∃ g, va = some ⟨g, 0, none⟩ := by
        rcases hO'.2 with ⟨e, -⟩ | ⟨g, cap, cur, e, -⟩
        · simp only [Value.slice.injEq] at e
          omega
        · simp only [Value.slice.injEq] at e
          exact ⟨g, e.1⟩
      obtain ⟨hrb, -, hnc, hcm, hbg⟩ := RB.of_row hO'
      have HCALL := hide (i_rev g vc p.reverse wr (by rw [List.length_reverse]; exact hpos) (by rw [List.length_reverse]; exact HLEN.out) hrb)
      rw [List.length_reverse, ← hvn, List.reverse_reverse] at HCALL
      have HF : Hid (vn = p.length ∧ vn ≤ vc ∧ vc ≤ maxLen ∧ W.heap.size ≤ g) := ⟨hvn, hnc, hcm, hbg⟩
      have HK := hide hK.out
      clear ha hp hvn hpos hO' hrb hnc hcm hbg hO hK hq
      go_wp2_with fail
      refine HCALL.out.mono ?_
      rintro e w9 ⟨rfl, hrb, k9⟩
      have HRB := hide hrb
      have HB9 : Hid (Below W.heap.size W w9) := by
        have h1 : Below W.heap.size W wr := HK.out.below (fun _ h => h) (Nat.le_refl _)
        exact Below.kept h1 k9 (fun c hc => by have := HF.out.2.2.2; omega) (Nat.le_refl _)
      clear hrb k9 HCALL
      go_wp2_with fail
      go_ret
      exact ⟨g, vc, by rw [← HF.out.1]; rfl, by have := HF.out; omega, HF.out.2.2.1, HRB.out, HF.out.2.2.2, HB9.out⟩
    · have hcc : q.concat s = q ++ [s] := List.concat_eq_append
      rw [hcc] at hq
      obtain ⟨ha, hp, hvn⟩ := hq.out
      rw [wend_app] at ha
      subst ha
      have hp2 : p = q ++ at_ :: r := by rw [hp, List.append_assoc]; rfl
      obtain ⟨hsf, hgk⟩ := HC.out q at_ r hp2
      have hnf := list_ne hsf
      have hmem : at_ ∈ p := by rw [hp2]; simp
      have HCL := hide (iClone at_ wr (by have := HSZ.out at_ hmem; omega))
      have hvl : vn + 1 ≤ 1048577 := by
        have h1 := HLEN.out
        have h2 : p.length = q.length + (r.length + 1) := by rw [hp2, List.length_append, List.length_cons]
        omega
      have hpl : vn < p.length := by
        have h2 : p.length = q.length + (r.length + 1) := by rw [hp2, List.length_append, List.length_cons]
        omega
      have HGK := hide hgk
      have HQ2 : Hid (wend fr q = wend fr q ∧ p = q ++ (at_ :: r) ∧ vn + 1 = (at_ :: r).length) := ⟨rfl, hp2, by rw [hvn]; rfl⟩
      have HO := hide hO.out
      have HK := hide hK.out
      clear hcc hq hp hvn hp2 hsf hgk hmem hO hK
      go_wp2_with fail
      refine HCL.out.mono ?_
      rintro e w1 ⟨rfl, b1⟩
      obtain ⟨V2, hV2⟩ : ∃ V, w1.alloc (.cells #[.string at_] 9) = V := ⟨_, rfl⟩
      have k2 : Kept (fun _ => True) wr V2 := by rw [← hV2]; exact (kt b1).trans (Kept.alloc _ _ _)
      have HBL : Hid (V2.heap[w1.heap.size]? = some (.cells [Value.string at_].toArray 9)) := by unfold Hid; rw [← hV2]; exact (MapKept.heap_alloc w1 _).1
      have HOS := hide (ownsRow_kept HO.out k2 (fun _ _ => trivial))
      have HZ2 : Hid (W.heap.size ≤ V2.heap.size) := Nat.le_trans HK.out.size k2.size
      have H63 : Hid (vn + 1 ≤ maxLen ∧ (vn + 1) * 16 ≤ 140737488355328) := ⟨by unfold maxLen; omega, by omega⟩
      have HFIN : Hid (∀ g cap w3, w3.ownsRow W.heap.size 9 1 (.slice (some ⟨g, 0, none⟩) (vn + 1) cap) (vn + 1) (r.reverse.map Value.string ++ [.string at_]) → V2.grownBy w3 (Value.slice va vn vc).ownBlock → w3.ownsRow W.heap.size 9 1 (.slice (some ⟨g, 0, none⟩) (vn + 1) cap) (vn + 1) ((at_ :: r).reverse.map Value.string) ∧ Kept (fun c => c < W.heap.size) W w3 ∧ MS w3 M kv) := fun g cap w3 h hG => by
        have ho := World.ownsRow.lt HO.out
        have k3 : Kept (fun c => c < W.heap.size) V2 w3 := Kept.grown hG (fun c hc e => by have := (ho c hc).1; omega)
        have kk : Kept (fun c => c < W.heap.size) W w3 := (HK.out.trans (k2.mono (fun _ _ _ => trivial))).trans k3
        refine ⟨?_, kk, HM.out.kept kk HML.out⟩
        rw [List.reverse_cons, List.map_append]
        exact h
      have HV2 := hide hV2
      clear hV2 b1 k2 HCL
      go_upto_region 4 with (at_builtin; rw [HV2.out]; refine ur_stepL rfl _ _ 30 9 rfl Try.info9 Try.underlying30 rfl (by decide) W.heap.size V2 (.slice va vn vc) vn (r.reverse.map Value.string) [.string at_] w1.heap.size 1 rfl rfl HZ2.out HOS.out HBL.out rfl (by simp [Value.oneCell']) H63.out.1 H63.out.2 ?_; rintro g3 q3 w3 hO3 hG3 hat3; have HF3 := hide (HFIN.out g3 q3 w3 hO3 hG3); clear hO3 hG3 hat3)
      have hlk := HF3.out.2.2.lookW at_ HGK.out false
      have hfl := field62 (wend fr q) w3
      have HO3 := hide HF3.out.1
      have HK3 := hide HF3.out.2.1
      clear HF3
      go_wp2_with fail
      go_roundw
      case rel => exact ⟨q, at_ :: r, _, _, _, _, rfl, rfl, ⟨rfl, HQ2.out.2⟩, HO3, HK3⟩
      case measure => simp; omega

end Go.Proofs.Ythnmjebbeneloaa

namespace Go.Proofs.Ythnmjebbeneloaa
open Go.RowKit Go.Joins

theorem freshW_old {β : Type} [DecidableEq β] (x : β) (a : List (List β)) (q : List β) (s : List β) (h : wend x q ∈ s ++ (freshW x s a).map (wend x)) : freshW x s (a ++ [q]) = freshW x s a := by
  rw [freshW_append]
  simp only [freshW, if_pos h, List.append_nil]

theorem freshW_new {β : Type} [DecidableEq β] (x : β) (a : List (List β)) (q : List β) (s : List β) (h : wend x q ∉ s ++ (freshW x s a).map (wend x)) : freshW x s (a ++ [q]) = freshW x s a ++ [q] := by
  rw [freshW_append]
  simp only [freshW, if_neg h]

theorem Chain.more {kv : List (ByteArray × Value)} {x : ByteArray} {p : List ByteArray} (h : Chain kv x p) (y : ByteArray) (v : Value) : Chain (kv ++ [(y, v)]) x p := fun q s r e => by
  obtain ⟨h1, h2⟩ := h q s r e
  refine ⟨h1, ?_⟩
  rw [getK_snoc, h2]
  rfl

theorem Chain.snoc {kv : List (ByteArray × Value)} {x : ByteArray} {p : List ByteArray} (h : Chain kv x p) {s : ByteArray} (hs : s ≠ x) (hn : getK s kv = none) : Chain (kv ++ [(s, .agg #[.string (wend x p)])]) x (p ++ [s]) := fun q t r e => by
  rcases List.eq_nil_or_concat r with rfl | ⟨r', l, rfl⟩
  · have e2 : p ++ [s] = q ++ [t] := e
    obtain ⟨e3, e4⟩ := List.append_inj' e2 rfl
    have e5 : s = t := by simpa using e4
    subst e3 e5
    refine ⟨hs, ?_⟩
    rw [getK_snoc, hn, if_pos rfl]
    rfl
  · have hcc : r'.concat l = r' ++ [l] := List.concat_eq_append
    have e2 : p ++ [s] = (q ++ t :: r') ++ [l] := by rw [e, hcc, List.append_assoc]; rfl
    obtain ⟨e3, -⟩ := List.append_inj' e2 rfl
    exact h.more s _ q t r' e3

/-- What is seen when a level is gone through. -/
def seenAt (sup : ByteArray → List ByteArray) (x : ByteArray) (n : Nat) : List ByteArray := (lev sup x n).2 ++ (lev sup x n).1.map (wend x)

/-- What the queue knows: a level, how far it is gone through, and what was found new. -/
structure QI (sup : ByteArray → List ByteArray) (x tg : ByteArray) (kv : List (ByteArray × Value)) (n : Nat) (A : List (List ByteArray)) (p : List ByteArray) (B : List (List ByteArray)) (pre : List ByteArray) (N : List (List ByteArray)) : Prop where
  hne : x ≠ tg
  hL : (lev sup x n).1 = A ++ p :: B
  hN : N = freshW x (seenAt sup x n) (A.flatMap (ext sup x) ++ pre.map fun s => p ++ [s])
  hk : ∀ a, getK a kv = none ↔ a ∉ seenAt sup x n ++ N.map (wend x)
  hl : kv.length = (seenAt sup x n).length + N.length
  ht : getK tg kv = none
  hp : ∀ s ∈ pre, s ∈ sup (wend x p)
  hx : x ∈ seenAt sup x n
  hc : ∀ q ∈ p :: (B ++ N), Chain kv x q

section
variable {sup : ByteArray → List ByteArray} {x tg : ByteArray} {kv : List (ByteArray × Value)} {n : Nat} {A : List (List ByteArray)} {p : List ByteArray} {B : List (List ByteArray)} {pre : List ByteArray} {N : List (List ByteArray)}

theorem QI.start (hne : x ≠ tg) (v : Value) : QI sup x tg [(x, v)] 0 [] [] [] [] [] := by
  have hs : seenAt sup x 0 = [x] := rfl
  refine ⟨hne, rfl, rfl, fun a => ?_, rfl, ?_, fun s h => absurd h List.not_mem_nil, by rw [hs]; exact List.mem_singleton.2 rfl, fun q hq => ?_⟩
  · rw [hs]
    simp only [getK, List.map_nil, List.append_nil, List.mem_singleton]
    by_cases h : x = a
    · simp [h]
    · simp [h, Ne.symm h]
  · simp only [getK, if_neg hne]
  · have e : q = [] := by simpa using hq
    subst e
    intro a b c h
    simp at h

theorem QI.oldN (h : QI sup x tg kv n A p B pre N) (s : ByteArray) (hs : s ∈ seenAt sup x n ++ N.map (wend x)) : N = freshW x (seenAt sup x n) (A.flatMap (ext sup x) ++ (pre ++ [s]).map fun s => p ++ [s]) := by
  have e : (pre ++ [s]).map (fun s => p ++ [s]) = pre.map (fun s => p ++ [s]) ++ [p ++ [s]] := by simp
  rw [e, ← List.append_assoc, freshW_old, ← h.hN]
  rw [← h.hN, wend_snoc]
  exact hs

theorem QI.newN (h : QI sup x tg kv n A p B pre N) (s : ByteArray) (hs : s ∉ seenAt sup x n ++ N.map (wend x)) : N ++ [p ++ [s]] = freshW x (seenAt sup x n) (A.flatMap (ext sup x) ++ (pre ++ [s]).map fun s => p ++ [s]) := by
  have e : (pre ++ [s]).map (fun s => p ++ [s]) = pre.map (fun s => p ++ [s]) ++ [p ++ [s]] := by simp
  rw [e, ← List.append_assoc, freshW_new, ← h.hN]
  rw [← h.hN, wend_snoc]
  exact hs

theorem QI.old (h : QI sup x tg kv n A p B pre N) {s : ByteArray} {v : Value} (hs : s ∈ sup (wend x p)) (hg : getK s kv = some v) : QI sup x tg kv n A p B (pre ++ [s]) N := by
  have hin : s ∈ seenAt sup x n ++ N.map (wend x) := Classical.byContradiction fun hh => by
    rw [(h.hk s).2 hh] at hg
    cases hg
  refine ⟨h.hne, h.hL, h.oldN s hin, h.hk, h.hl, h.ht, fun a ha => ?_, h.hx, h.hc⟩
  · rcases List.mem_append.1 ha with ha | ha
    · exact h.hp a ha
    · rw [List.mem_singleton.1 ha]
      exact hs

theorem QI.ne_x (h : QI sup x tg kv n A p B pre N) {s : ByteArray} (hg : getK s kv = none) : s ≠ x := fun e => by
  have := (h.hk s).1 hg
  rw [e] at this
  exact this (List.mem_append.2 (.inl h.hx))

theorem QI.new (h : QI sup x tg kv n A p B pre N) {s : ByteArray} (hs : s ∈ sup (wend x p)) (hg : getK s kv = none) (hst : s ≠ tg) : QI sup x tg (kv ++ [(s, .agg #[.string (wend x p)])]) n A p B (pre ++ [s]) (N ++ [p ++ [s]]) := by
  have hin := (h.hk s).1 hg
  have hsx := h.ne_x hg
  refine ⟨h.hne, h.hL, h.newN s hin, fun a => ?_, ?_, ?_, fun a ha => ?_, h.hx, fun q hq => ?_⟩
  · rw [getK_snoc, List.map_append, List.map_cons, List.map_nil, wend_snoc, ← List.append_assoc]
    by_cases e : s = a
    · subst e
      rw [hg, if_pos rfl]
      simp
    · rw [if_neg e, Option.or_none, h.hk a]
      constructor
      · intro h1 h2
        rcases List.mem_append.1 h2 with h2 | h2
        · exact h1 h2
        · exact e (List.mem_singleton.1 h2).symm
      · intro h1 h2
        exact h1 (List.mem_append.2 (.inl h2))
  · rw [List.length_append, List.length_append, h.hl]
    simp only [List.length_cons, List.length_nil]
    omega
  · rw [getK_snoc, h.ht, if_neg hst]
    rfl
  · rcases List.mem_append.1 ha with ha | ha
    · exact h.hp a ha
    · rw [List.mem_singleton.1 ha]
      exact hs
  · have hq2 : q ∈ (p :: (B ++ N)) ++ [p ++ [s]] := by
      rw [List.cons_append, List.append_assoc]
      exact hq
    rcases List.mem_append.1 hq2 with hq | hq
    · exact (h.hc q hq).more _ _
    · rw [List.mem_singleton.1 hq]
      exact (h.hc p List.mem_cons_self).snoc hsx hg

theorem QI.ends (h : QI sup x tg kv n A p B pre N) : N.map (wend x) = fresh (seenAt sup x n) ((A.map (wend x)).flatMap sup ++ pre) := by
  rw [h.hN, freshW_map, List.map_append, ext_ends, List.map_map]
  congr 2
  have e : (wend x ∘ fun s => p ++ [s]) = id := by
    funext s
    exact wend_snoc x p s
  rw [e, List.map_id]

theorem seen_eq (n : Nat) : seenAt sup x n = (levN sup x n).2 ++ (levN sup x n).1 := by
  obtain ⟨h1, h2⟩ := lev_levN sup x n
  rw [seenAt, h1, h2]

theorem walks_len : ∀ (n : Nat) (x : ByteArray) (p : List ByteArray), p ∈ walks sup n x → p.length = n ∧ ∀ s ∈ p, ∃ a, s ∈ sup a
  | 0, x, p, h => by
    have e : p = [] := by simpa [walks] using h
    subst e
    exact ⟨rfl, fun s hs => absurd hs List.not_mem_nil⟩
  | n + 1, x, p, h => by
    simp only [walks, List.mem_flatMap, List.mem_map] at h
    obtain ⟨s, hs, q, hq, rfl⟩ := h
    obtain ⟨h1, h2⟩ := walks_len n s q hq
    refine ⟨by rw [List.length_cons, h1], fun t ht => ?_⟩
    rcases List.mem_cons.1 ht with rfl | ht
    · exact ⟨x, hs⟩
    · exact h2 t ht

theorem QI.hit (h : QI sup x tg kv n A p B pre N) {post : List ByteArray} (hs : sup (wend x p) = pre ++ tg :: post) {U : List ByteArray} (hU : ∀ a b, b ∈ sup a → b ∈ U) : SP sup x tg (p ++ [tg]) ∧ Chain (kv ++ [(tg, .agg #[.string (wend x p)])]) x (p ++ [tg]) ∧ (p ++ [tg]).length ≤ U.length + 1 ∧ ∀ s ∈ p ++ [tg], s ∈ U := by
  have hin := (h.hk tg).1 h.ht
  rw [h.ends, seen_eq] at hin
  have hf := lev_found (sup := sup) (x := x) h.hL hs (fun e => hin (List.mem_append.2 (.inl e))) (fun e => hin (List.mem_append.2 (.inr e)))
  have hw := (freshW_sub x _ _ _ (by rw [← lev_walks]; exact hf)).1
  obtain ⟨w1, w2⟩ := walks_len (sup := sup) (n + 1) x _ hw
  have hlv : tg ∈ (levN sup x (n + 1)).1 := by
    rw [← (lev_levN sup x (n + 1)).1]
    exact List.mem_map.2 ⟨_, hf, wend_snoc x p tg⟩
  have hfar := levN_far sup x (n + 1) (List.ne_nil_of_mem hlv)
  have hlen := levN_len sup x U hU (n + 1)
  refine ⟨.inr ⟨h.hne, .inl ⟨n + 1, hf, wend_snoc x p tg⟩⟩, (h.hc p List.mem_cons_self).snoc (h.ne_x h.ht) h.ht, by omega, fun s hs => ?_⟩
  obtain ⟨a, ha⟩ := w2 s hs
  exact hU a s ha

theorem QI.next (h : QI sup x tg kv n A p B (sup (wend x p)) N) {q : List ByteArray} {rest : List (List ByteArray)} (e : B ++ N = q :: rest) : ∃ n' A' B' N', rest = B' ++ N' ∧ QI sup x tg kv n' A' q B' [] N' := by
  cases B with
  | cons b B =>
    have e2 : b = q ∧ B ++ N = rest := by simpa using e
    obtain ⟨rfl, rfl⟩ := e2
    refine ⟨n, A ++ [p], B, N, rfl, h.hne, ?_, ?_, h.hk, h.hl, h.ht, fun s h => absurd h List.not_mem_nil, h.hx, fun r hr => ?_⟩
    · rw [h.hL, List.append_assoc]
      rfl
    · rw [List.flatMap_append, List.map_nil, List.append_nil]
      have e3 : [p].flatMap (ext sup x) = (sup (wend x p)).map fun s => p ++ [s] := by simp [ext]
      rw [e3]
      exact h.hN
    · exact h.hc r (List.mem_cons_of_mem _ hr)
  | nil =>
    have e2 : N = q :: rest := e
    subst e2
    have hl1 : (lev sup x (n + 1)).1 = q :: rest := by
      rw [h.hN]
      show freshW x (seenAt sup x n) ((lev sup x n).1.flatMap (ext sup x)) = _
      rw [h.hL, List.flatMap_append]
      have e3 : [p].flatMap (ext sup x) = (sup (wend x p)).map fun s => p ++ [s] := by simp [ext]
      rw [e3]
    have hs1 : seenAt sup x (n + 1) = seenAt sup x n ++ (q :: rest).map (wend x) := by
      show seenAt sup x n ++ (lev sup x (n + 1)).1.map (wend x) = _
      rw [hl1]
    refine ⟨n + 1, [], rest, [], (List.append_nil _).symm, h.hne, hl1, rfl, fun a => ?_, ?_, h.ht, fun s h => absurd h List.not_mem_nil, ?_, fun r hr => ?_⟩
    · rw [hs1, List.map_nil, List.append_nil]
      exact h.hk a
    · rw [hs1, h.hl, List.length_append, List.length_map]
      rfl
    · rw [hs1]
      exact List.mem_append.2 (.inl h.hx)
    · rw [List.append_nil] at hr
      exact h.hc r (List.mem_cons_of_mem _ hr)

theorem QI.stop (h : QI sup x tg kv n A p B (sup (wend x p)) N) (e : B ++ N = []) : SP sup x tg [] := by
  obtain ⟨rfl, rfl⟩ := List.append_eq_nil_iff.1 e
  have hl1 : (lev sup x (n + 1)).1 = [] := by
    show freshW x (seenAt sup x n) ((lev sup x n).1.flatMap (ext sup x)) = _
    rw [h.hL, List.flatMap_append]
    have e3 : [p].flatMap (ext sup x) = (sup (wend x p)).map fun s => p ++ [s] := by simp [ext]
    rw [e3]
    exact h.hN.symm
  have hin := (h.hk tg).1 h.ht
  refine SP.none (n := n + 1) h.hne ?_ ?_
  · rw [← (lev_levN sup x (n + 1)).1, hl1]
    rfl
  · rw [← (lev_levN sup x (n + 1)).2]
    intro hh
    exact hin (List.mem_append.2 (.inl hh))

theorem QI.len (h : QI sup x tg kv n A p B pre N) {U : List ByteArray} (hU : ∀ a b, b ∈ sup a → b ∈ U) : kv.length ≤ U.length + 1 ∧ (p :: (B ++ N)).length ≤ kv.length := by
  have h1 : (seenAt sup x n ++ N.map (wend x)).Nodup := by
    rw [List.nodup_append]
    refine ⟨by rw [seen_eq]; exact levN_nodup sup x n, by rw [h.hN]; exact freshW_nodup x _ _, fun a ha b hb e => ?_⟩
    subst e
    obtain ⟨q, hq, rfl⟩ := List.mem_map.1 hb
    rw [h.hN] at hq
    exact (freshW_sub x _ _ _ hq).2 ha
  have h2 : ∀ a ∈ seenAt sup x n ++ N.map (wend x), a ∈ x :: U := fun a ha => by
    rcases List.mem_append.1 ha with ha | ha
    · rw [seen_eq] at ha
      exact levN_in sup x U hU n a ha
    · obtain ⟨q, hq, rfl⟩ := List.mem_map.1 ha
      rw [h.hN] at hq
      have h3 := (freshW_sub x _ _ _ hq).1
      refine List.mem_cons_of_mem _ ?_
      rcases List.mem_append.1 h3 with h3 | h3
      · obtain ⟨r, -, hr⟩ := List.mem_flatMap.1 h3
        exact hU _ _ (ext_end sup x r q hr)
      · obtain ⟨s, hs, rfl⟩ := List.mem_map.1 h3
        rw [wend_snoc]
        exact hU _ _ (h.hp s hs)
  have h4 := nodup_len _ _ h1 h2
  rw [List.length_append, List.length_map, ← h.hl, List.length_cons] at h4
  refine ⟨h4, ?_⟩
  have h5 : (seenAt sup x n).length = (lev sup x n).2.length + (A.length + (B.length + 1)) := by
    rw [seenAt, List.length_append, List.length_map, h.hL, List.length_append, List.length_cons]
  rw [h.hl, h5, List.length_cons, List.length_append]
  omega

end
end Go.Proofs.Ythnmjebbeneloaa

namespace Go.Proofs.Ythnmjebbeneloaa
open Go.RowKit Go.Joins

/-- What the queue's loop keeps in memory. -/
structure QW (Z : Nat) (V0 wr : World) (M1 M2 : Nat) (kv1 kv : List (ByteArray × Value)) (g off c : Nat) (L : List ByteArray) : Prop where
  kp : Kept (fun k => k < Z) V0 wr
  z : Z ≤ M1
  m1 : MS wr M1 kv1
  m2 : MS wr M2 kv
  o1 : M1 < M2
  o2 : M2 < g
  le : L.length ≤ c
  mx : c ≤ maxLen
  lt : g < wr.heap.size
  cel : ∀ i x, L[i]? = some x → wr.cell? ⟨g, off + i, none⟩ = some (.string x)
  sp : ∀ j, j < c → (wr.cell? ⟨g, off + j, none⟩).isSome = true ∧ wr.frozen? ⟨g, off + j, none⟩ = false
  ag : ∀ a v, getK a kv = some v → ∃ y, v = .agg #[.string y]

theorem frozen_block {A B : World} {p : Addr} (h : B.heap[p.block]? = A.heap[p.block]?) : B.frozen? p = A.frozen? p := by
  simp only [World.frozen?, h]

section
variable {Z : Nat} {V0 wr : World} {M1 M2 : Nat} {kv1 kv : List (ByteArray × Value)} {g off c : Nat} {L : List ByteArray}

theorem QW.keep (h : QW Z V0 wr M1 M2 kv1 kv g off c L) {wx : World} (k : Kept (fun _ => True) wr wx) : QW Z V0 wx M1 M2 kv1 kv g off c L :=
  ⟨h.kp.trans (k.mono (fun _ _ _ => trivial)), h.z, h.m1.kept k trivial, h.m2.kept k trivial, h.o1, h.o2, h.le, h.mx, Nat.lt_of_lt_of_le h.lt k.size, fun i x hx => (k.cell (p := ⟨g, off + i, none⟩) h.lt trivial).trans (h.cel i x hx), fun j hj => by
    rw [k.cell (p := ⟨g, off + j, none⟩) h.lt trivial, frozen_block (A := wr) (B := wx) (p := ⟨g, off + j, none⟩) (k.block g h.lt trivial)]
    exact h.sp j hj, h.ag⟩

theorem QW.put (h : QW Z V0 wr M1 M2 kv1 kv g off c L) {wx : World} {s y : ByteArray} (hm : MS wx M2 (kv ++ [(s, .agg #[.string y])])) (hG : wr.grownBy wx (some M2)) : QW Z V0 wx M1 M2 kv1 (kv ++ [(s, .agg #[.string y])]) g off c L := by
  have k : Kept (fun b => b ≠ M2) wr wx := Kept.grown hG (fun b e h => h (Option.some.inj e).symm)
  have z := h.z
  have o1 := h.o1
  have o2 := h.o2
  have hg : g ≠ M2 := by omega
  refine ⟨h.kp.trans (k.mono (fun b _ hb => by omega)), h.z, h.m1.kept k (by omega), hm, h.o1, h.o2, h.le, h.mx, Nat.lt_of_lt_of_le h.lt k.size, fun i x hx => (k.cell (p := ⟨g, off + i, none⟩) h.lt hg).trans (h.cel i x hx), fun j hj => ?_, fun a v hv => ?_⟩
  · rw [k.cell (p := ⟨g, off + j, none⟩) h.lt hg, frozen_block (A := wr) (B := wx) (p := ⟨g, off + j, none⟩) (k.block g h.lt hg)]
    exact h.sp j hj
  · rw [getK_snoc] at hv
    cases hk : getK a kv with
    | some u =>
      rw [hk] at hv
      have e : u = v := Option.some.inj hv
      rw [← e]
      exact h.ag a u hk
    | none =>
      rw [hk] at hv
      by_cases e : s = a
      · rw [if_pos e] at hv
        have e : Value.agg #[.string y] = v := Option.some.inj hv
        exact ⟨y, e.symm⟩
      · rw [if_neg e] at hv
        cases hv

theorem QW.room (h : QW Z V0 wr M1 M2 kv1 kv g off c L) (s : ByteArray) (hr : L.length + 1 ≤ c) : QW Z V0 (wr.setCells g (off + L.length * 1) [.string s]) M1 M2 kv1 kv g off c (L ++ [s]) := by
  have z := h.z
  have o1 := h.o1
  have o2 := h.o2
  have k : Kept (fun b => b ≠ g) wr (wr.setCells g (off + L.length * 1) [.string s]) := Kept.setCell _ _ _ _ (by simp)
  have hz : (wr.setCells g (off + L.length * 1) [.string s]).heap.size = wr.heap.size := by simp [World.setCells, World.setCell]
  refine ⟨h.kp.trans (k.mono (fun b _ hb => by omega)), h.z, h.m1.kept k (by omega), h.m2.kept k (by omega), h.o1, h.o2, by rw [List.length_append]; exact hr, h.mx, by rw [hz]; exact h.lt, fun i x hx => ?_, fun j hj => ?_, h.ag⟩
  · by_cases hi : i < L.length
    · rw [List.getElem?_append_left hi] at hx
      rw [World.cell?_setCells_out _ _ _ _ _ (fun _ _ => .inl (by show off + i < _; omega))]
      exact h.cel i x hx
    · have hi2 : i = L.length := by
        have := (List.getElem?_eq_some_iff.1 hx).1
        rw [List.length_append] at this
        simp at this
        omega
      subst hi2
      have e : s = x := by simpa using hx
      subst e
      have := World.cell?_setCells_in g [.string s] (off + L.length * 1) wr (fun j hj => by
        have hj0 : j = 0 := by simpa using hj
        subst hj0
        rw [Nat.mul_one, Nat.add_zero]
        exact (h.sp L.length (by omega)).1) 0 (by simp)
      rw [Nat.add_zero, Nat.mul_one] at this
      rw [Nat.mul_one]
      exact this
  · rw [World.frozen?_setCells]
    refine ⟨?_, (h.sp j hj).2⟩
    by_cases e : j = L.length
    · subst e
      have := World.cell?_setCells_in g [.string s] (off + L.length * 1) wr (fun j hj => by
        have hj0 : j = 0 := by simpa using hj
        subst hj0
        rw [Nat.mul_one, Nat.add_zero]
        exact (h.sp L.length (by omega)).1) 0 (by simp)
      rw [Nat.add_zero, Nat.mul_one] at this
      rw [Nat.mul_one, this]
      rfl
    · rw [World.cell?_setCells_out _ _ _ _ _ (fun _ _ => by
        show off + j < off + L.length * 1 ∨ off + L.length * 1 + 1 ≤ off + j
        omega)]
      exact (h.sp j hj).1

theorem QW.grow (h : QW Z V0 wr M1 M2 kv1 kv g off c L) {s : ByteArray} {v : Value} {wx : World} (hO : wx.ownsRow wr.heap.size 9 1 v (L.length + 1) (L.map Value.string ++ [.string s])) (hG : wr.grownBy wx none) : ∃ g' c', v = .slice (some ⟨g', 0, none⟩) (L.length + 1) c' ∧ QW Z V0 wx M1 M2 kv1 kv g' 0 c' (L ++ [s]) := by
  have k : Kept (fun _ => True) wr wx := Kept.grown hG (fun b e => by cases e)
  have h' := h.keep k
  rcases hO.2 with ⟨-, e⟩ | ⟨g', cap', cur, e, hb, hg, hnc, hcm, hcs, ht⟩
  · simp at e
  · subst e
    have hO' : wx.ownsRow wr.heap.size 9 1 (.slice (some ⟨g', 0, none⟩) (L.length + 1) cap') (L.length + 1) ((L ++ [s]).map Value.string) := by
      rw [List.map_append]
      exact hO
    obtain ⟨hrb, -, -, -, -⟩ := RB.of_row hO'
    have hlt := h.lt
    have o2 := h.o2
    refine ⟨g', cap', rfl, h'.kp, h'.z, h'.m1, h'.m2, h'.o1, by omega, by rw [List.length_append]; exact hnc, hcm, hrb.lt, fun i x hx => ?_, fun j hj => ?_, h.ag⟩
    · rw [Nat.zero_add]
      exact hrb.cel i x hx
    · rw [Nat.zero_add]
      refine ⟨?_, hrb.live j⟩
      have hjs : j < cur.size := by omega
      simp [World.cell?, hg, hjs]

theorem QW.pop {x : ByteArray} (h : QW Z V0 wr M1 M2 kv1 kv g off c (x :: L)) : QW Z V0 wr M1 M2 kv1 kv g (off + 1) (c - 1) L := by
  have hl := h.le
  rw [List.length_cons] at hl
  refine ⟨h.kp, h.z, h.m1, h.m2, h.o1, h.o2, by omega, by have := h.mx; omega, h.lt, fun i y hy => ?_, fun j hj => ?_, h.ag⟩
  · have := h.cel (i + 1) y (by rw [List.getElem?_cons_succ]; exact hy)
    rwa [show off + (i + 1) = off + 1 + i by omega] at this
  · have := h.sp (j + 1) (by omega)
    rwa [show off + (j + 1) = off + 1 + j by omega] at this

end

/-- How many a map has. -/
def mapN (w : World) (M : Nat) : Nat :=
  match w.heap[M]? with
  | some (.map es _) => es.size
  | _ => 0

theorem MS.mapN {w : World} {M : Nat} {kv : List (ByteArray × Value)} (h : MS w M kv) : mapN w M = kv.length := by
  obtain ⟨es, c, h1, h2⟩ := h
  have := congrArg List.length h2
  simp only [List.length_map, Array.length_toList] at this
  simp only [Ythnmjebbeneloaa.mapN, h1, this]

set_option maxRecDepth 100000 in
theorem run_pop (w : World) (g off n c : Nat) : (Instr.sliceAt 30 (.slice (some ⟨g, off, none⟩) (n + 1) c) (some (.int .i64 1)) none none).run Try.prog w = .ok (.slice (some ⟨g, if c = 1 then off else off + 1, none⟩) n (c - 1)) w := by
  have h := run_slice_l (P := Try.prog) w 30 (some ⟨g, off, none⟩) (n + 1) c Try.underlying30 .i64 1 (by decide) (by omega)
  rw [run_sliceAt_slice (P := Try.prog) w 30 _ _ _ _ Try.underlying30, h]
  have hs : (sizeOf (Try.prog.elem 30)).run Try.prog w = .ok 1 w := by kernel_rfl
  rw [hs]
  show Result.ok (sliced _ _ _ _ _) w = _
  simp only [sliced]
  by_cases hc : c = 1
  · simp [hc]
  · have e : (1 : Int).toNat = 1 := rfl
    simp [e, hc, Addr.add]

end Go.Proofs.Ythnmjebbeneloaa

namespace Go.Proofs.Ythnmjebbeneloaa
open Go.RowKit Go.Joins

theorem strs_sz : ∀ (F : Fo) (s : ByteArray), s ∈ strs F → s.size ≤ F.wt
  | .v (.string x) r, s, h => by
    rcases List.mem_cons.1 h with rfl | h
    · show s.size ≤ s.size + r.wt
      omega
    · have := strs_sz r s h
      show s.size ≤ x.size + r.wt
      omega
  | .nil, s, h => absurd h List.not_mem_nil
  | .s _ _ _ _ _, s, h => absurd h List.not_mem_nil
  | .v (.int _ _) _, s, h => absurd h List.not_mem_nil

theorem allS_sz : ∀ (F : Fo) (s : ByteArray), s ∈ allS F → s.size ≤ F.wt := by
  intro F
  induction F using allS.induct with
  | case1 v a1 n1 c1 S a2 n2 c2 S2 r ih =>
    intro s h
    simp only [allS, List.mem_append] at h
    simp only [Fo.wt]
    rcases h with h | h
    · have := strs_sz S s h
      omega
    · have := ih s h
      omega
  | case2 F hF =>
    intro s h
    exfalso
    unfold allS at h
    split at h
    · exact hF _ _ _ _ _ _ _ _ _ _ rfl
    · exact absurd h List.not_mem_nil

/-- One more waits. -/
theorem q_step {ops : Array Oper} {rest : List Oper} {op : Oper} {a : Act} {Q : Exit → Act → World → Prop} (hgd : op.guard = none) (s x : Operand) (ho : op.op = .call { callee := .builtin .append, args := #[s, x], argTypes := #[30, 30] })
    (V : World) {Z : Nat} {V0 : World} {M1 M2 : Nat} {kv1 kv : List (ByteArray × Value)} {g off c : Nat} {L : List ByteArray} (h : QW Z V0 V M1 M2 kv1 kv g off c L) (y : ByteArray) (ad n : Nat) (hn : n = L.length) (hs : a.eval s = .slice (some ⟨g, off, none⟩) n c) (hx : a.eval x = .slice (some ⟨ad, 0, none⟩) 1 1)
    (hb : V.heap[ad]? = some (.cells [Value.string y].toArray 9)) (hl : n + 1 ≤ 1048578)
    (hK : ∀ g' off' c' w', QW Z V0 w' M1 M2 kv1 kv g' off' c' (L ++ [y]) → wpList Try.prog ops Q rest (a.put op.dst (.slice (some ⟨g', off', none⟩) (n + 1) c')) w') : wpList Try.prog ops Q (op :: rest) a V := by
  subst hn
  obtain ⟨i0, hi, hz0, hz1, hz2⟩ := info_parts Try.info9
  refine wpList_append_arg V hgd s x 30 ho 9 i0 _ 1 16 Try.underlying30 hi hz0 hz1 hz2 rfl (by decide) g off L.length c (L.map Value.string) hs (by simp) (fun j u hu => ?_) ⟨ad, 0, none⟩ 1 1 [.string y] hx rfl (fun j u hu => World.news_of_block hb j u (by simpa using hu)) (by simp [Value.oneCell']) (fun hr j hj => ?_) (by unfold maxLen; omega) (by omega) (fun hr => ?_) (fun _ v' w' hO hG => ?_)
  · rw [List.getElem?_map] at hu
    cases hL : L[j]? with
    | none =>
      rw [hL] at hu
      cases hu
    | some z =>
      rw [hL] at hu
      have e : Value.string z = u := Option.some.inj hu
      rw [← e]
      exact h.cel j z hL
  · have hj0 : j = 0 := by simpa using hj
    subst hj0
    rw [Nat.mul_one, Nat.add_zero]
    exact h.sp L.length (by omega)
  · exact hK _ _ _ _ (h.room y hr)
  · obtain ⟨g', c', rfl, hw⟩ := h.grow hO hG
    exact hK _ _ _ _ hw

end Go.Proofs.Ythnmjebbeneloaa

namespace Go.Proofs.Ythnmjebbeneloaa
open Go.RowKit Go.Joins

/-- What the program's SuperPath answers. -/
def SPA (W W' : World) (e : Ending) (R : List ByteArray) : Prop :=
  (R = [] ∧ e = .returned (.slice none 0 0)) ∨ ∃ g c, e = .returned (.slice (some ⟨g, 0, none⟩) R.length c) ∧ R.length ≤ c ∧ c ≤ maxLen ∧ RB W' g R ∧ W.heap.size ≤ g

/-- Where the outer loop stands. -/
def QO (CL : Fo) (fr tg : ByteArray) (Z : Nat) (V0 wr : World) (M1 M2 : Nat) (kv1 kv : List (ByteArray × Value)) (wa : Option Addr) (wn wc : Nat) : Prop :=
  (wn = 0 ∧ SP (supsOf CL) fr tg [] ∧ Kept (fun k => k < Z) V0 wr) ∨ ∃ g off n A p B N, wa = some ⟨g, off, none⟩ ∧ wn = (p :: (B ++ N)).length ∧ QI (supsOf CL) fr tg kv n A p B [] N ∧ QW Z V0 wr M1 M2 kv1 kv g off wc ((p :: (B ++ N)).map (wend fr))

set_option maxHeartbeats 2000000 in
set_option maxRecDepth 100000 in
theorem i_SuperPath (v0 v1 v2 v4 : Value) (a : Option Addr) (n cap : Nat) (CL : Fo) (fr tg : ByteArray) (W : World) (h0 : ∃ a n c, v0 = .slice a n c) (h1 : ∃ a n c, v1 = .slice a n c) (h2 : ∃ a n c, v2 = .slice a n c) (h4 : ∃ a n c, v4 = .slice a n c) (hf : Fit E CL (rep (E 1) n)) (hwt : CL.wt ≤ 1048576) (hs : CL.Sub W (fun c => c < W.heap.size) a n cap) :
    Calls Try.prog 7 #[.agg #[v0, v1, v2, .slice a n cap, v4], .string fr, .string tg] W fun e W' => ∃ R, SP (supsOf CL) fr tg R ∧ SPA W W' e R ∧ Below W.heap.size W W' := by
  obtain ⟨a0, n0, c0, rfl⟩ := h0
  obtain ⟨a1, n1, c1, rfl⟩ := h1
  obtain ⟨a2, n2, c2, rfl⟩ := h2
  obtain ⟨a4, n4, c4, rfl⟩ := h4
  obtain ⟨hU, hUl⟩ := sups_all n CL hf
  obtain ⟨V0, hV0⟩ : ∃ V, W.alloc (.cells #[.slice a0 n0 c0, .slice a1 n1 c1, .slice a2 n2 c2, .slice a n cap, .slice a4 n4 c4] 38) = V := ⟨_, rfl⟩
  have b0 : Below W.heap.size W V0 := by rw [← hV0]; exact below_alloc1 _ _
  have q0 : Bx V0 W.heap.size [.slice a0 n0 c0, .slice a1 n1 c1, .slice a2 n2 c2, .slice a n cap, .slice a4 n4 c4] := by rw [← hV0]; exact Bx.new _ _ _
  have t3 : V0.cell? ⟨W.heap.size, 3, none⟩ = some (.slice a n cap) := q0.cel 3 _ rfl
  have HSUP := hide (i_supers a n cap CL W.heap.size V0 hf (hs.below b0 (fun c hc => hc)) b0.size)
  have HB0 := hide b0
  have HV0 := hide hV0
  have HU := hide hU
  have HUL : Hid ((allS CL).length + 1 ≤ 1048577) := by show _ ≤ _; omega
  have HSZ : Hid (∀ s ∈ allS CL, s.size ≤ 1048576) := fun s hs => by have := allS_sz CL s hs; omega
  clear hV0 b0 q0 hs hf hU hUl hwt
  by_cases hft : fr = tg
  · have HSP : Hid (SP (supsOf CL) fr tg []) := .inl ⟨hft, rfl⟩
    subst hft
    go_enter Try.func7, Try.ntmps7
    go_upto_region 1 with fail
    rw [HV0.out]
    clear HV0
    go_wp2_with fail
    go_ret
    exact ⟨[], HSP.out, .inl ⟨rfl, rfl⟩, HB0.out⟩
  · have HFT := hide hft
    have hft' := list_ne hft
    clear hft
    go_enter Try.func7, Try.ntmps7
    go_upto_region 1 with fail
    rw [HV0.out]
    clear HV0
    go_wp2_with fail
    refine HSUP.out.mono ?_
    rintro e V1 ⟨M1, kv1, rfl, hM1, hms, hkv, hb1⟩
    have hmm := run_makeMap63 V1
    obtain ⟨V2, hV2⟩ : ∃ V, V1.alloc (.map #[] 0) = V := ⟨_, rfl⟩
    have hms2 : MS V2 V1.heap.size [] := by rw [← hV2]; exact MS.start V1
    have k2 : Kept (fun _ => True) V1 V2 := by rw [← hV2]; exact Kept.alloc _ _ _
    rw [hV2] at hmm
    obtain ⟨V3, hpt, hms3, hg3⟩ := hms2.putW fr rfl (.agg #[.string ⟨#[]⟩])
    have k3 : Kept (fun k => k ≠ V1.heap.size) V2 V3 := Kept.grown hg3 (fun b e h => h (Option.some.inj e).symm)
    obtain ⟨V4, hV4⟩ : ∃ V, V3.alloc (.cells #[.string fr] 9) = V := ⟨_, rfl⟩
    have q4 : Bx V4 V3.heap.size [.string fr] := by rw [← hV4]; exact Bx.new _ _ _
    have k4 : Kept (fun _ => True) V3 V4 := by rw [← hV4]; exact Kept.alloc _ _ _
    have HQ4 : Hid (QO CL fr tg W.heap.size V0 V4 M1 V1.heap.size kv1 [(fr, .agg #[.string ⟨#[]⟩])] (some ⟨V3.heap.size, 0, none⟩) 1 1) := by
      have hl1 := hms.lt
      have hl2 := hms2.lt
      have hz3 := k3.size
      have hz0 := HB0.out.size
      have hz1 := hb1.size
      have h4 : V4.heap[V3.heap.size]? = some (.cells #[.string fr] 9) := by rw [← hV4]; exact (MapKept.heap_alloc V3 _).1
      refine .inr ⟨V3.heap.size, 0, 0, [], [], [], [], rfl, rfl, QI.start HFT.out _, ?_, by omega, ?_, hms3.kept k4 trivial, hl1, by omega, Nat.le_refl _, by unfold maxLen; omega, (Array.getElem?_eq_some_iff.1 h4).1, fun i x hx => ?_, fun j hj => ?_, fun b v hv => ?_⟩
      · exact (((kt hb1).mono (fun _ _ _ => trivial)).trans (k2.mono (fun _ _ _ => trivial))).trans ((k3.mono (fun b _ hb => by omega)).trans (k4.mono (fun _ _ _ => trivial)))
      · exact ((hms.kept k2 trivial).kept k3 (by omega)).kept k4 trivial
      · have hi : i = 0 := by
          have := (List.getElem?_eq_some_iff.1 hx).1
          simpa using this
        subst hi
        have e : fr = x := by simpa [wend] using hx
        subst e
        exact q4.cel 0 _ rfl
      · have hj0 : j = 0 := by omega
        subst hj0
        refine ⟨by rw [q4.cel 0 _ rfl]; rfl, ?_⟩
        simp [World.frozen?, h4]
      · simp only [getK] at hv
        split at hv
        · exact ⟨_, (Option.some.inj hv).symm⟩
        · cases hv
    have HKV := hide hkv
    have HMM := hide (show M1 < V1.heap.size from hms.lt)
    have HZ : Hid (W.heap.size ≤ V0.heap.size) := HB0.out.size
    have HV4 := hide hV4
    have HMN := (hms3.kept k4 trivial).mapN
    clear hM1 hms hkv hb1 hV2 hms2 k2 hms3 hg3 k3 hV4 q4 k4 HSUP
    have HN4 : Hid (mapN V4 V1.heap.size = [(fr, Value.agg #[.string ⟨#[]⟩])].length) := HMN
    clear HMN
    go_wp2_with fail
    go_loopw [9] (fun s9 wr => ∃ (wa : Option Addr) (wn wc : Nat) (kv : List (ByteArray × Value)), s9 = .slice wa wn wc ∧ Hid (mapN wr V1.heap.size = kv.length) ∧ Hid (QO CL fr tg W.heap.size V0 wr M1 V1.heap.size kv1 kv wa wn wc)) (fun s9 wr => 2 * (1048578 - mapN wr V1.heap.size) + (match s9 with | .slice _ n _ => n | _ => 0))
    case atStart =>
      rw [HV4.out]
      exact ⟨_, 1, 1, _, rfl, HN4, HQ4⟩
    case round =>
      clear HN4 HQ4 HV4 hpt hmm
      obtain ⟨wa, wn, wc, kv, rfl, hmn, hQ⟩ := hrel
      rcases hQ.out with ⟨hw0, hSP, hK⟩ | ⟨g, off, m, A, p, B, N, rfl, hwn, hQI, hQW⟩
      · subst hw0
        have HSP := hide hSP
        have HB : Hid (Below W.heap.size W wr) := Below.kept HB0.out hK (fun b hb => hb) (Nat.le_refl _)
        clear hSP hK hQ
        go_wp2_with fail
        go_ret
        exact ⟨[], HSP.out, .inl ⟨rfl, rfl⟩, HB.out⟩
      · obtain ⟨x, hx⟩ : ∃ x, x = wend fr p := ⟨_, rfl⟩
        obtain ⟨S, hS⟩ : ∃ S, S = supsOf CL x := ⟨_, rfl⟩
        have hcx : wr.cell? ⟨g, off, none⟩ = some (.string x) := by rw [hx]; exact hQW.cel 0 _ rfl
        have hlook : ∃ sa sc, (Instr.lookup 59 (.map (some M1)) (.string x) false).run Try.prog wr = .ok (.slice sa S.length sc) wr ∧ SR V0 (fun c => c < W.heap.size) sa sc S := by
          cases hg : getK x kv1 with
          | none =>
            have e : S = [] := by rw [hS, ← (HKV.out x).1 hg]; rfl
            subst e
            exact ⟨none, 0, hQW.m1.missL x hg false, SR.nil _ _ _ _ (Nat.zero_le _)⟩
          | some v =>
            obtain ⟨sa, sc, rfl, hsr⟩ := (HKV.out x).2 v hg
            rw [← hS] at hsr
            have hl := hQW.m1.lookL x hg false
            rw [← hS] at hl
            exact ⟨sa, sc, hl, hsr⟩
        obtain ⟨sa, sc, hlk, hsr⟩ := hlook
        have hwp : 0 < wn := by rw [hwn]; simp
        have hsl : S.length ≤ 9223372036854775807 := by have h2 := hsr.le; have h3 := hsr.mx; simp only [maxLen] at h3; omega
        have hwl : wn ≤ 1048577 := by
          have h1 := hQI.len HU.out
          have h2 := HUL.out
          rw [← hwn] at h1
          omega
        have HX := hide hx
        have HS := hide hS
        have HSR := hide hsr
        have HI : Hid (QI (supsOf CL) fr tg kv m A p B [] N ∧ QW W.heap.size V0 wr M1 V1.heap.size kv1 kv g off wc ((p :: (B ++ N)).map (wend fr)) ∧ wn = (p :: (B ++ N)).length) := ⟨hQI, hQW, hwn⟩
        have HMN := hide hmn.out
        clear hx hS hsr hQI hQW hwn hQ hmn
        go_wp2_with fail
        go_loopw [9, 37] (fun s9 s37 wx => ∃ (i g' off' c' wn' : Nat) (kv' : List (ByteArray × Value)) (pre post : List ByteArray) (N' : List (List ByteArray)), s9 = .slice (some ⟨g', off', none⟩) wn' c' ∧ s37 = .int .i64 i ∧ i ≤ S.length ∧ Hid (S = pre ++ post ∧ i = pre.length ∧ wn' = (p :: (B ++ N')).length ∧ 2 * (1048578 - kv'.length) + wn' ≤ 2 * (1048578 - kv.length) + wn) ∧ Hid (QI (supsOf CL) fr tg kv' m A p B pre N') ∧ Hid (QW W.heap.size V0 wx M1 V1.heap.size kv1 kv' g' off' c' ((p :: (B ++ N')).map (wend fr)))) (fun _ s37 _ => S.length - (intOf s37).toNat)
        case atStart => exact ⟨0, g, off, wc, wn, kv, [], S, N, rfl, rfl, Nat.zero_le _, ⟨rfl, rfl, HI.out.2.2, Nat.le_refl _⟩, HI.out.1, HI.out.2.1⟩
        case round =>
          clear hlk
          obtain ⟨i, g', off', c', wn', kv', pre, post, N', rfl, rfl, hiS, hP, hQI, hQW⟩ := hrel
          cases post with
          | nil =>
            obtain ⟨hP1, hP2, hP3, hP4⟩ := hP.out
            have hi : i = S.length := by rw [hP1, List.append_nil]; exact hP2
            have hpre : pre = supsOf CL (wend fr p) := by rw [← HX.out, ← HS.out, hP1, List.append_nil]
            subst hpre
            obtain ⟨k, hk⟩ : ∃ k, k = (B ++ N').length := ⟨_, rfl⟩
            have hwk : wn' = k + 1 := by rw [hP3, hk]; rfl
            subst hwk
            have hpop := run_pop wr g' off' k c'
            obtain ⟨off2, hoff⟩ : ∃ o, o = if c' = 1 then off' else off' + 1 := ⟨_, rfl⟩
            rw [← hoff] at hpop
            have HMK := hide hQW.out.m2.mapN
            have HQO : Hid (QO CL fr tg W.heap.size V0 wr M1 V1.heap.size kv1 kv' (some ⟨g', off2, none⟩) k (c' - 1)) := by
              cases hBN : B ++ N' with
              | nil => exact .inl ⟨by rw [hk, hBN]; rfl, hQI.out.stop hBN, hQW.out.kp⟩
              | cons q rest =>
                obtain ⟨n2, A2, B2, N2, rfl, hq2⟩ := hQI.out.next hBN
                have hle := hQW.out.le
                rw [hBN] at hle
                simp only [List.map_cons, List.length_cons] at hle
                have hw2 := hQW.out
                rw [hBN, List.map_cons] at hw2
                refine .inr ⟨g', off2, n2, A2, q, B2, N2, rfl, by rw [hk, hBN], hq2, ?_⟩
                rw [hoff, if_neg (by omega)]
                exact hw2.pop
            have HM4 := hide hP4
            have HKL : Hid (kv'.length ≤ 1048577) := by
              have h1 := (hQI.out.len HU.out).1
              have h2 := HUL.out
              show _ ≤ _
              omega
            subst hi
            clear hP hP1 hP2 hP3 hP4 hQI hQW hoff hk
            go_wp2_with fail
            go_roundw
            case rel => exact ⟨_, k, _, kv', rfl, HMK, HQO⟩
            case measure =>
              have h1 := HMK.out
              have h2 := HMN.out
              have h3 := HM4.out
              simp only [h1, h2]
              omega
          | cons s post =>
            obtain ⟨hP1, hP2, hP3, hP4⟩ := hP.out
            have hi : (i : Int) < S.length := by rw [hP1, List.length_append, hP2, List.length_cons]; omega
            have hSi : S[i]? = some s := by rw [hP1, hP2]; simp
            obtain ⟨b, o, rfl, hb, hc⟩ := HSR.out.at_ (by rw [hP1]; simp)
            have hci : wr.cell? ⟨b, o + i, none⟩ = some (.string s) := (hQW.out.kp.cell (p := ⟨b, o + i, none⟩) (Nat.lt_of_lt_of_le hb HZ.out) hb).trans (hc i s hSi)
            have hsin : s ∈ supsOf CL (wend fr p) := by rw [← HX.out, ← HS.out, hP1]; simp
            have hg'x : wr.cell? ⟨g', off', none⟩ = some (.string x) := by rw [HX.out]; exact hQW.out.cel 0 _ rfl
            have hwp' : 0 < wn' := by rw [hP3]; simp
            have HP := hide hP.out
            have HI' := hide hQI.out
            have HW' := hide hQW.out
            have HSIN := hide hsin
            clear hP1 hP2 hP3 hP4 hSi hc hsin hP hQI hQW hb
            cases hg : getK s kv' with
            | some v =>
              obtain ⟨y, rfl⟩ := HW'.out.ag s v hg
              have hlk := HW'.out.m2.lookW s hg true
              have HG := hide hg
              clear hg
              have HW5 := hide (HW'.out.keep (Kept.alloc _ wr (.cells #[.string y] 62)))
              have HP5 : Hid (S = (pre ++ [s]) ++ post ∧ i + 1 = (pre ++ [s]).length) := ⟨by rw [HP.out.1, List.append_assoc]; rfl, by rw [HP.out.2.1, List.length_append]; rfl⟩
              go_wp2_with fail
              go_roundw
              case rel => exact ⟨i + 1, g', off', c', wn', kv', pre ++ [s], post, N', rfl, by go_num, by omega, ⟨HP5.out.1, HP5.out.2, HP.out.2.2⟩, HI'.out.old HSIN.out HG.out, HW5⟩
              case measure => simp [intOf]; omega
            | none =>
              have hlk := HW'.out.m2.missW s hg true
              obtain ⟨V5, hV5⟩ : ∃ V, wr.alloc (.cells #[.string ⟨#[]⟩] 62) = V := ⟨_, rfl⟩
              have hW5 := HW'.out.keep (Kept.alloc (fun _ => True) wr (.cells #[.string ⟨#[]⟩] 62))
              rw [hV5] at hW5
              have hx5 : V5.cell? ⟨g', off', none⟩ = some (.string x) := by rw [HX.out]; exact hW5.cel 0 _ rfl
              obtain ⟨V6, hpt, hm6, hg6⟩ := hW5.m2.putW s hg (.agg #[.string x])
              have hW6 := hW5.put hm6 hg6
              have HG := hide hg
              have HV5 := hide hV5
              have HW6 := hide hW6
              clear hg hV5 hW5 hg6 hW6 hg'x
              by_cases hst : s = tg
              · have hst' : tg = s := hst.symm
                subst hst'
                obtain ⟨hh1, hh2, hh3, hh4⟩ := HI'.out.hit (post := post) (by rw [← HX.out, ← HS.out]; exact HP.out.1) HU.out
                rw [← HX.out] at hh2
                have HWAY := hide (i_way V1.heap.size (kv' ++ [(tg, .agg #[.string x])]) fr (p ++ [tg]) V6 hm6 hh2 (by simp) (fun s hs => HSZ.out s (hh4 s hs)) (Nat.le_trans hh3 HUL.out))
                rw [wend_snoc] at HWAY
                have HSP := hide hh1
                clear hh1 hh2 hh3 hh4 hm6
                go_upto_region 12 with fail
                rw [HV5.out]
                clear HV5
                go_wp2_with fail
                refine HWAY.out.mono ?_
                rintro e w9 ⟨g9, c9, rfl, h91, h92, h93, h94, h95⟩
                have H9 : Hid (SPA W w9 (.returned (.slice (some ⟨g9, 0, none⟩) (p.length + 1) c9)) (p ++ [tg]) ∧ Below W.heap.size W w9) := by
                  have hz := HW6.out.kp.size
                  have hz0 := HB0.out.size
                  refine ⟨.inr ⟨g9, c9, by rw [List.length_append]; rfl, h91, h92, h93, by omega⟩, ?_⟩
                  exact Below.kept (Below.kept HB0.out HW6.out.kp (fun b hb => hb) (Nat.le_refl _)) (kt (S := fun _ => True) h95) (fun _ _ => trivial) (Nat.le_refl _)
                clear h91 h92 h93 h94 h95 HWAY
                go_wp2_with fail
                go_ret
                exact ⟨p ++ [tg], HSP.out, H9.out.1, H9.out.2⟩
              · have hst' := list_ne hst
                have HST := hide hst
                obtain ⟨V7, hV7⟩ : ∃ V, V6.alloc (.cells #[.string s] 9) = V := ⟨_, rfl⟩
                have HW7 : Hid (QW W.heap.size V0 V7 M1 V1.heap.size kv1 (kv' ++ [(s, .agg #[.string x])]) g' off' c' ((p :: (B ++ N')).map (wend fr))) := by unfold Hid; rw [← hV7]; exact HW6.out.keep (Kept.alloc _ _ _)
                have HBL : Hid (V7.heap[V6.heap.size]? = some (.cells [Value.string s].toArray 9)) := by unfold Hid; rw [← hV7]; exact (MapKept.heap_alloc V6 _).1
                have HI7 : Hid (QI (supsOf CL) fr tg (kv' ++ [(s, .agg #[.string x])]) m A p B (pre ++ [s]) (N' ++ [p ++ [s]])) := by
                  unfold Hid
                  rw [HX.out]
                  exact HI'.out.new HSIN.out HG.out hst
                have HLE : Hid (((p :: (B ++ N')).map (wend fr)) ++ [s] = (p :: (B ++ (N' ++ [p ++ [s]]))).map (wend fr)) := by
                  show _ = _
                  simp [wend_snoc]
                have HN : Hid (wn' = ((p :: (B ++ N')).map (wend fr)).length ∧ wn' + 1 ≤ 1048578) := by
                  have h1 := HI'.out.len HU.out
                  have h2 := HUL.out
                  have h3 := HP.out.2.2.1
                  rw [← h3] at h1
                  exact ⟨by rw [List.length_map]; exact h3, by omega⟩
                have HP5 : Hid (S = (pre ++ [s]) ++ post ∧ i + 1 = (pre ++ [s]).length ∧ wn' + 1 = (p :: (B ++ (N' ++ [p ++ [s]]))).length ∧ 2 * (1048578 - (kv' ++ [(s, Value.agg #[.string x])]).length) + (wn' + 1) ≤ 2 * (1048578 - kv.length) + wn) := by
                  have h1 := (HI7.out.len HU.out).1
                  have h2 := HUL.out
                  have h4 := HP.out.2.2.2
                  refine ⟨by rw [HP.out.1, List.append_assoc]; rfl, by rw [HP.out.2.1, List.length_append]; rfl, by rw [HP.out.2.2.1]; simp; omega, ?_⟩
                  rw [List.length_append, List.length_singleton] at h1 ⊢
                  omega
                have HV7 := hide hV7
                clear hst hV7 hm6
                go_upto_region 12 with fail
                rw [HV5.out]
                clear HV5
                go_upto_region 17 with (at_builtin; rw [HV7.out]; refine q_step rfl _ _ rfl V7 HW7.out s V6.heap.size wn' HN.out.1 rfl rfl HBL.out HN.out.2 ?_; rintro g8 off8 c8 w8 hw8; rw [HLE.out] at hw8; have HW8 := hide hw8; clear hw8)
                go_wp2_with fail
                go_roundw
                case rel => exact ⟨i + 1, g8, off8, c8, wn' + 1, _, pre ++ [s], post, _, rfl, by go_num, by omega, HP5, HI7, HW8⟩
                case measure => simp [intOf]; omega

end Go.Proofs.Ythnmjebbeneloaa
