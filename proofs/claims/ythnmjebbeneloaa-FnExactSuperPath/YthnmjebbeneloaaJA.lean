import Derived.Test.YthnmjebbeneloaaKa
import Derived.Test.YthnmjebbeneloaaUt
import Derived.Test.YthnmjebbeneloaaWl
import Derived.Deep.RegionHeld3
import Derived.Deep.DeepCutAuto
import Derived.Deep.RegionLaw
namespace Go.Proofs.Ythnmjebbeneloaa
open Go.RowKit Go.Joins

/-- The texts of a row. -/
def strs : Fo → List ByteArray
  | .v (.string x) r => x :: strs r
  | _ => []

/-- The superclasses of a class. -/
def supsOf : Fo → ByteArray → List ByteArray
  | .v (.string nm) (.s _ _ _ S (.s _ _ _ _ r)), x => if nm = x then strs S else supsOf r x
  | _, _ => []

/-- A row of texts in memory. -/
structure SR (V : World) (S : Nat → Prop) (a : Option Addr) (c : Nat) (L : List ByteArray) : Prop where
  le : L.length ≤ c
  mx : c ≤ maxLen
  at_ : L ≠ [] → ∃ b o, a = some ⟨b, o, none⟩ ∧ S b ∧ ∀ i x, L[i]? = some x → V.cell? ⟨b, o + i, none⟩ = some (.string x)

theorem SR.kept {A B : World} {S T : Nat → Prop} {a : Option Addr} {c : Nat} {L : List ByteArray} (h : SR A S a c L) (k : Kept T A B) (hS : ∀ b, S b → T b ∧ b < A.heap.size) : SR B S a c L :=
  ⟨h.le, h.mx, fun hl => by
    obtain ⟨b, o, e, s, hc⟩ := h.at_ hl
    exact ⟨b, o, e, s, fun i x hx => (k.cell (p := ⟨b, o + i, none⟩) (hS b s).2 (hS b s).1).trans (hc i x hx)⟩⟩

theorem SR.mono {A : World} {S T : Nat → Prop} {a : Option Addr} {c : Nat} {L : List ByteArray} (h : SR A S a c L) (hS : ∀ b, S b → T b) : SR A T a c L :=
  ⟨h.le, h.mx, fun hl => by
    obtain ⟨b, o, e, s, hc⟩ := h.at_ hl
    exact ⟨b, o, e, hS b s, hc⟩⟩

theorem SR.nil (A : World) (S : Nat → Prop) (a : Option Addr) (c : Nat) (h : c ≤ maxLen) : SR A S a c [] := ⟨Nat.zero_le _, h, fun hl => absurd rfl hl⟩

theorem strs_fit : ∀ (n : Nat) (F : Fo), Fit E F (rep (E 0) n) → F.vals = (strs F).map Value.string ∧ (strs F).length = n
  | 0, F, h => by
    have e := fit_nil h
    subst e
    exact ⟨rfl, rfl⟩
  | n + 1, F, h => by
    replace h : Fit E F ([.t] ++ rep (E 0) n) := h
    obtain ⟨x, r, rfl, -, h⟩ := fit_t h
    obtain ⟨h1, h2⟩ := strs_fit n r h
    exact ⟨by simp only [Fo.vals, strs, List.map_cons, h1], by simp only [strs, List.length_cons, h2]⟩

theorem sr_of {W : World} {S : Nat → Prop} {a : Option Addr} {n c : Nat} {F : Fo} (hf : Fit E F (rep (E 0) n)) (h : Fo.Sub W S a n c F) : SR W S a c (strs F) ∧ (strs F).length = n := by
  obtain ⟨h1, h2⟩ := strs_fit n F hf
  refine ⟨⟨by rw [h2]; exact h.1, h.2.1, fun hl => ?_⟩, h2⟩
  have hlen : 0 < F.len := by
    rw [← Fo.vals_length, h1, List.length_map]
    exact List.length_pos_iff.2 hl
  obtain ⟨b, o, e, s, hc, -⟩ := h.2.2 hlen
  refine ⟨b, o, e, s, fun i x hx => hc i _ ?_⟩
  rw [h1, List.getElem?_map, hx]
  rfl

set_option maxHeartbeats 2000000 in
set_option maxRecDepth 100000 in
theorem m_sups (v0 v1 v2 v4 : Value) (a : Option Addr) (n cap : Nat) (CL : Fo) (x : ByteArray) (nb : Nat) (W : World) (h0 : ∃ a n c, v0 = .slice a n c) (h1 : ∃ a n c, v1 = .slice a n c) (h2 : ∃ a n c, v2 = .slice a n c) (h4 : ∃ a n c, v4 = .slice a n c) (hf : Fit E CL (rep (E 1) n)) (hs : CL.Sub W (fun c => c < nb) a n cap) (hn : nb ≤ W.heap.size) :
    Calls Try.prog 18 #[.agg #[v0, v1, v2, .slice a n cap, v4], .string x] W fun e W' => ∃ a' c', e = .returned (.slice a' (supsOf CL x).length c') ∧ SR W (fun c => c < nb) a' c' (supsOf CL x) ∧ Below W.heap.size W W' := by
  obtain ⟨a0, n0, c0, rfl⟩ := h0
  obtain ⟨a1, n1, c1, rfl⟩ := h1
  obtain ⟨a2, n2, c2, rfl⟩ := h2
  obtain ⟨a4, n4, c4, rfl⟩ := h4
  have hmx : n ≤ 9223372036854775807 := by have h2 := hs.1; have h3 := hs.2.1; simp only [maxLen] at h3; omega
  obtain ⟨V0, hV0⟩ : ∃ V, W.alloc (.cells #[.slice a0 n0 c0, .slice a1 n1 c1, .slice a2 n2 c2, .slice a n cap, .slice a4 n4 c4] 38) = V := ⟨_, rfl⟩
  have b0 : Below W.heap.size W V0 := by rw [← hV0]; exact below_alloc1 _ _
  have q1 : Bx V0 W.heap.size [.slice a0 n0 c0, .slice a1 n1 c1, .slice a2 n2 c2, .slice a n cap, .slice a4 n4 c4] := by rw [← hV0]; exact Bx.new _ _ _
  have HR := hide (Rd.start hf hs)
  have HB0 := hide b0
  have t3 : V0.cell? ⟨W.heap.size, 3, none⟩ = some (.slice a n cap) := q1.cel 3 _ rfl
  have HV0 := hide hV0
  have HN := hide hn
  clear hV0 b0 q1 hf hs hn
  go_enter Try.func18, Try.ntmps18
  go_upto_region 1 with fail
  rw [HV0.out]
  clear HV0
  go_wp2_with fail
  go_loopw [5] (fun s5 wr => ∃ (i : Nat) (r : Fo), s5 = .int .i64 i ∧ wr = V0 ∧ i ≤ n ∧ Hid (supsOf r x = supsOf CL x) ∧ Hid (Rd E (E 1) n nb a i r W)) (fun s5 _ => n - (intOf s5).toNat)
  case atStart => exact ⟨0, CL, rfl, rfl, Nat.zero_le _, rfl, HR⟩
  case round =>
    obtain ⟨i, r, rfl, rfl, hin, hfd, hR⟩ := hrel
    by_cases hi : i < n
    · obtain ⟨y, rr, b, o, rfl, hx, rfl, hb, hc, hxs, hR1⟩ := hR.out.next hi (by decide)
      have HR1 := hide hR1
      have hii : (i : Int) < n := by omega
      have hfe := hfd.out
      have hnn := HN.out
      replace hc := hc.below HB0.out (by omega)
      replace hx : Fit E y [.t, .s 0, .s 0] := hx
      obtain ⟨x0, F0, rfl, -, hx⟩ := fit_t hx
      obtain ⟨p1, m1, e1, S1, F1, rfl, hS1, hx⟩ := fit_s hx
      obtain ⟨p2, m2, e2, S2, F2, rfl, -, hx⟩ := fit_s hx
      obtain rfl := fit_nil hx
      simp only [Fo.app, supsOf] at hfe
      have y0 : wr.cell? ⟨b, o + i * 3, none⟩ = some (.string x0) := hc 0 _ rfl
      have y1 : wr.cell? ⟨b, o + i * 3 + 1, none⟩ = some (.slice p1 m1 e1) := hc 1 _ rfl
      obtain ⟨hsr, hln⟩ := sr_of hS1 hxs.1
      have HSR := hide hsr
      have HLN := hide hln
      clear hc hxs hx hR hR1 hfd hnn hsr hln
      by_cases h1 : x0 = x
      · rw [if_pos h1] at hfe
        have HFE := hide hfe
        subst h1
        clear hfe
        go_wp2_with fail
        go_ret
        exact ⟨p1, e1, by rw [← HFE.out, HLN.out]; rfl, by rw [← HFE.out]; exact HSR.out, HB0.out⟩
      · have h1' := list_ne h1
        rw [if_neg h1] at hfe
        have HFE := hide hfe
        clear hfe h1
        go_wp2_with fail
        go_roundw
        case rel => exact ⟨i + 1, rr, by go_num, trivial, by omega, HFE, HR1⟩
        case measure => simp [intOf]; omega
    · obtain ⟨rfl, rfl⟩ := hR.out.done hi
      have HFE : Hid (([] : List ByteArray) = supsOf CL x) := hfd.out
      clear hR hfd
      go_wp2_with fail
      go_ret
      exact ⟨none, 0, by rw [← HFE.out]; rfl, by rw [← HFE.out]; exact SR.nil _ _ _ _ (Nat.zero_le _), HB0.out⟩

set_option maxHeartbeats 1000000 in
set_option maxRecDepth 100000 in
theorem m_in (a : Option Addr) (c : Nat) (L : List ByteArray) (x : ByteArray) (W : World) (S : Nat → Prop) (hs : SR W S a c L) (q : Bool) (hq : q = true ↔ x ∈ L) :
    Calls Try.prog 20 #[.slice a L.length c, .string x] W fun e W' => e = .returned (.bool q) ∧ Below W.heap.size W W' := by
  obtain ⟨n, hn⟩ : ∃ n, n = L.length := ⟨_, rfl⟩
  rw [← hn]
  have hmx : n ≤ 9223372036854775807 := by have h2 := hs.le; have h3 := hs.mx; simp only [maxLen] at h3; omega
  have HS := hide hs
  have HQ := hide hq
  clear hq
  have HN := hide hn
  clear hs hn
  go_enter Try.func20, Try.ntmps20
  go_wp2_with fail
  go_loopw [5] (fun s5 wr => ∃ i : Nat, s5 = .int .i64 i ∧ wr = W ∧ i ≤ n ∧ Hid (x ∈ L ↔ x ∈ L.drop i)) (fun s5 _ => n - (intOf s5).toNat)
  case atStart => exact ⟨0, rfl, rfl, Nat.zero_le _, Iff.rfl⟩
  case round =>
    obtain ⟨i, rfl, rfl, hin, hfd⟩ := hrel
    by_cases hi : i < n
    · have hii : (i : Int) < n := by omega
      have hil : i < L.length := by rw [← HN.out]; exact hi
      obtain ⟨y, hy⟩ : ∃ y, L[i]? = some y := ⟨_, List.getElem?_eq_getElem hil⟩
      obtain ⟨b, o, rfl, -, hc⟩ := HS.out.at_ (List.length_pos_iff.1 (by omega))
      have y0 := hc i y hy
      have hd : L.drop i = y :: L.drop (i + 1) := by
        rw [List.drop_eq_getElem_cons hil]
        congr 1
        exact (List.getElem?_eq_some_iff.1 hy).2
      have hfe := hfd.out
      rw [hd, List.mem_cons] at hfe
      clear hc hd hy hil hfd
      by_cases h1 : y = x
      · have HT : Hid (q = true) := HQ.out.2 (hfe.2 (.inl h1.symm))
        subst h1
        clear hfe
        go_wp2_with fail
        go_ret
        exact ⟨by rw [HT.out]; rfl, Below.refl _ _⟩
      · have h1' := list_ne h1
        have HT : Hid (x ∈ L ↔ x ∈ L.drop (i + 1)) := ⟨fun h => (hfe.1 h).resolve_left (fun e => h1 e.symm), fun h => hfe.2 (.inr h)⟩
        clear hfe h1
        go_wp2_with fail
        go_roundw
        case rel => exact ⟨i + 1, by go_num, trivial, by omega, HT⟩
        case measure => simp [intOf]; omega
    · have HT : Hid (q = false) := by
        cases hqq : q with
        | false => rfl
        | true =>
          have h2 := hfd.out.1 (HQ.out.1 hqq)
          rw [List.drop_eq_nil_of_le (by rw [← HN.out]; omega)] at h2
          exact absurd h2 List.not_mem_nil
      clear hfd
      go_wp2_with fail
      go_ret
      exact ⟨by rw [HT.out]; rfl, Below.refl _ _⟩

end Go.Proofs.Ythnmjebbeneloaa

namespace Go.Proofs.Ythnmjebbeneloaa
open Go.RowKit Go.Joins

theorem firstWay_len {β : Type} [DecidableEq β] (sup : β → List β) (tgt : β) : ∀ (n : Nat) (x : β) (p : List β), firstWay sup tgt n x = some p → p.length = n
  | 0, x, p, h => by
    unfold firstWay at h
    split at h
    · cases h; rfl
    · cases h
  | n + 1, x, p, h => by
    unfold firstWay at h
    obtain ⟨s, -, hs⟩ := List.exists_of_findSome?_eq_some h
    cases h2 : firstWay sup tgt n s with
    | none => rw [h2] at hs; cases hs
    | some q =>
      rw [h2] at hs
      cases hs
      rw [List.length_cons, firstWay_len sup tgt n s q h2]

theorem Try.info9 : (Try.prog.info? 9).map (fun i => (i.zero, i.size, i.bytes)) = some (some (.string ⟨#[]⟩), 1, 16) := by kernel_rfl

/-- What a call for a way tells. -/
def PW (W' : World) (r : Option (List ByteArray)) (a : Option Addr) (m c : Nat) (q : Bool) : Prop :=
  match r with
  | none => q = false
  | some p => q = true ∧ m = p.length ∧ SR W' (fun c => c < W'.heap.size) a c p

theorem sr_row {W : World} {B : Nat} {v : Value} {n : Nat} {L : List ByteArray} (h : W.ownsRow B 9 1 v n (L.map Value.string)) : ∃ a c, v = .slice a n c ∧ n = L.length ∧ SR W (fun b => b < W.heap.size) a c L := by
  have hl := h.1
  rw [List.length_map, Nat.mul_one] at hl
  rcases h.2 with ⟨rfl, rfl⟩ | ⟨g, cap, cur, rfl, hb, hg, hnc, hcm, hcs, ht⟩
  · have e : L = [] := List.length_eq_zero_iff.1 hl
    subst e
    exact ⟨none, 0, rfl, rfl, SR.nil _ _ _ _ (Nat.zero_le _)⟩
  · refine ⟨_, cap, rfl, hl.symm, ⟨by omega, hcm, fun _ => ⟨g, 0, rfl, (Array.getElem?_eq_some_iff.1 hg).1, fun i x hx => ?_⟩⟩⟩
    have h2 := h.cells (g := g) rfl i (.string x) (by rw [List.getElem?_map, hx]; rfl)
    rwa [addr_add] at h2

set_option maxHeartbeats 4000000 in
set_option maxRecDepth 100000 in
theorem m_path (v0 v1 v2 v4 : Value) (a : Option Addr) (n cap : Nat) (CL : Fo) (tgt : ByteArray) (nb : Nat) (h0 : ∃ a n c, v0 = .slice a n c) (h1 : ∃ a n c, v1 = .slice a n c) (h2 : ∃ a n c, v2 = .slice a n c) (h4 : ∃ a n c, v4 = .slice a n c) (hf : Fit E CL (rep (E 1) n)) :
    ∀ (k : Nat) (x : ByteArray) (W : World), k ≤ 1048577 → CL.Sub W (fun c => c < nb) a n cap → nb ≤ W.heap.size →
    Calls Try.prog 19 #[.agg #[v0, v1, v2, .slice a n cap, v4], .string x, .string tgt, .int .i64 k] W fun e W' => ∃ a' m c' q, e = .returned (.tuple #[.slice a' m c', .bool q]) ∧ Below W.heap.size W W' ∧ PW W' (firstWay (supsOf CL) tgt k x) a' m c' q := by
  intro k
  induction k with
  | zero =>
    intro x W hk hs hn
    obtain ⟨a0, n0, c0, rfl⟩ := h0
    obtain ⟨a1, n1, c1, rfl⟩ := h1
    obtain ⟨a2, n2, c2, rfl⟩ := h2
    obtain ⟨a4, n4, c4, rfl⟩ := h4
    have HB := hide (below_alloc2 W (.cells #[.slice a0 n0 c0, .slice a1 n1 c1, .slice a2 n2 c2, .slice a n cap, .slice a4 n4 c4] 38) (.cells #[] 9))
    have HN : Hid (∀ (V : World) (g : Nat), SR V (fun c => c < V.heap.size) (some ⟨g, 0, none⟩) 0 []) := fun V g => SR.nil _ _ _ _ (Nat.zero_le _)
    clear hs hn hk hf
    by_cases h : x = tgt
    · have HP : Hid (firstWay (supsOf CL) tgt 0 x = some []) := by unfold Hid firstWay; rw [if_pos h]
      subst h
      go_enter Try.func19, Try.ntmps19
      go_wp2_with fail
      refine bodyPost_ret (v := .tuple #[.slice (some ⟨W.heap.size + 1, 0, none⟩) 0 0, .bool true]) (by simp [results, Try.results19, go_sem]) rfl ⟨_, _, _, _, rfl, HB.out, ?_⟩
      rw [HP.out]
      exact ⟨rfl, rfl, HN.out _ _⟩
    · have HP : Hid (firstWay (supsOf CL) tgt 0 x = none) := by unfold Hid firstWay; rw [if_neg h]
      have h' := list_ne h
      clear h
      go_enter Try.func19, Try.ntmps19
      go_wp2_with fail
      refine bodyPost_ret (v := .tuple #[.slice (some ⟨W.heap.size + 1, 0, none⟩) 0 0, .bool false]) (by simp [results, Try.results19, go_sem]) rfl ⟨_, _, _, _, rfl, HB.out, ?_⟩
      rw [HP.out]
      exact rfl
  | succ k ih =>
    intro x W hk hs hn
    have HSUP := hide (fun V (hV : CL.Sub V (fun c => c < nb) a n cap) (hz : nb ≤ V.heap.size) => m_sups v0 v1 v2 v4 a n cap CL x nb V h0 h1 h2 h4 hf hV hz)
    obtain ⟨a0, n0, c0, rfl⟩ := h0
    obtain ⟨a1, n1, c1, rfl⟩ := h1
    obtain ⟨a2, n2, c2, rfl⟩ := h2
    obtain ⟨a4, n4, c4, rfl⟩ := h4
    obtain ⟨V0, hV0⟩ : ∃ V, W.alloc (.cells #[.slice a0 n0 c0, .slice a1 n1 c1, .slice a2 n2 c2, .slice a n cap, .slice a4 n4 c4] 38) = V := ⟨_, rfl⟩
    have b0 : Below W.heap.size W V0 := by rw [← hV0]; exact below_alloc1 _ _
    have q0 : Bx V0 W.heap.size [.slice a0 n0 c0, .slice a1 n1 c1, .slice a2 n2 c2, .slice a n cap, .slice a4 n4 c4] := by rw [← hV0]; exact Bx.new _ _ _
    have z0 : nb ≤ V0.heap.size := Nat.le_trans hn b0.size
    have HC := hide (HSUP.out V0 (hs.below b0 (fun c hc => by omega)) z0)
    have HS0 := hide (hs.below b0 (fun c hc => by omega))
    have HZ0 := hide z0
    have HB0 := hide b0
    have HQ0 := hide q0
    have HV0 := hide hV0
    have HIH := hide ih
    obtain ⟨L, hL⟩ : ∃ L, L = supsOf CL x := ⟨_, rfl⟩
    have HP : Hid (firstWay (supsOf CL) tgt (k + 1) x = L.findSome? fun s => (firstWay (supsOf CL) tgt k s).map (s :: ·)) := by unfold Hid; rw [hL]; rfl
    rw [← hL] at HC
    have hk1 : ((k + 1 : Nat) : Int) = (k : Int) + 1 := by omega
    have hk0 : (((k : Int) + 1) == 0) = false := beq_eq_false_iff_ne.2 (by omega)
    rw [hk1]
    have hkb : k ≤ 1048576 := by omega
    have HWK : Hid (IntKind.i64.wrap ((k : Nat) : Int) = k) := by unfold Hid; rw [IntKind.wrap_i64]; omega
    have d0 := q0.cel 0 _ rfl
    have d1 := q0.cel 1 _ rfl
    have d2 := q0.cel 2 _ rfl
    have d3 := q0.cel 3 _ rfl
    have d4 := q0.cel 4 _ rfl
    clear hV0 b0 q0 z0 hs hn ih hL HSUP hf hk1
    go_enter Try.func19, Try.ntmps19
    go_upto_region 3 with fail
    rw [HV0.out]
    clear HV0
    go_wp2_with fail
    refine HC.out.mono ?_
    rintro e w1 ⟨sa, sc, rfl, hsr, b1⟩
    obtain ⟨m, hm⟩ : ∃ m, m = L.length := ⟨_, rfl⟩
    rw [← hm]
    have hmx : m ≤ 9223372036854775807 := by have h2 := hsr.le; have h3 := hsr.mx; simp only [maxLen] at h3; omega
    have HSR := hide (hsr.kept (kt (S := fun _ => True) b1) (fun b hb => ⟨trivial, by have := HZ0.out; omega⟩))
    have HM := hide hm
    have HB1 := hide b1
    clear hsr b1 hm HC d0 d1 d2 d3 d4
    go_wp2_with fail
    go_loopw [11] (fun s11 wr => ∃ i : Nat, s11 = .int .i64 i ∧ i ≤ m ∧ Hid (firstWay (supsOf CL) tgt (k + 1) x = (L.drop i).findSome? fun s => (firstWay (supsOf CL) tgt k s).map (s :: ·)) ∧ Hid (Kept (fun _ => True) w1 wr)) (fun s11 _ => m - (intOf s11).toNat)
    case atStart => exact ⟨0, rfl, Nat.zero_le _, HP, Kept.refl _ _⟩
    case round =>
      obtain ⟨i, rfl, hin, hfd, hK⟩ := hrel
      by_cases hi : i < m
      · have hii : (i : Int) < m := by omega
        have hil : i < L.length := by rw [← HM.out]; exact hi
        obtain ⟨y, hy⟩ : ∃ y, L[i]? = some y := ⟨_, List.getElem?_eq_getElem hil⟩
        obtain ⟨b, o, rfl, hbn, hc⟩ := HSR.out.at_ (List.length_pos_iff.1 (by omega))
        have hd : L.drop i = y :: L.drop (i + 1) := by
          rw [List.drop_eq_getElem_cons hil]
          congr 1
          exact (List.getElem?_eq_some_iff.1 hy).2
        have hfe := hfd.out
        rw [hd, List.findSome?_cons] at hfe
        have HFE := hide hfe
        have HSQ : Hid (∀ V, Kept (fun _ => True) wr V → V.cell? ⟨W.heap.size, 0, none⟩ = some (.slice a0 n0 c0) ∧ V.cell? ⟨W.heap.size, 1, none⟩ = some (.slice a1 n1 c1) ∧ V.cell? ⟨W.heap.size, 2, none⟩ = some (.slice a2 n2 c2) ∧ V.cell? ⟨W.heap.size, 3, none⟩ = some (.slice a n cap) ∧ V.cell? ⟨W.heap.size, 4, none⟩ = some (.slice a4 n4 c4) ∧ V.cell? ⟨b, o + i, none⟩ = some (.string y)) := fun V kV => by
          have kk : Kept (fun _ => True) w1 V := hK.out.trans kV
          have q := (HQ0.out.below HB1.out).kept kk trivial
          have hz := HB1.out.size
          have hz0 := HZ0.out
          exact ⟨q.cel 0 _ rfl, q.cel 1 _ rfl, q.cel 2 _ rfl, q.cel 3 _ rfl, q.cel 4 _ rfl, (kk.cell (p := ⟨b, o + i, none⟩) (by show b < _; have hbn' : b < nb := hbn; omega) trivial).trans (hc i y hy)⟩
        have HCL : Hid (∀ V, Kept (fun _ => True) wr V → Calls Try.prog 19 #[.agg #[.slice a0 n0 c0, .slice a1 n1 c1, .slice a2 n2 c2, .slice a n cap, .slice a4 n4 c4], .string y, .string tgt, .int .i64 k] V fun e W' => ∃ v, e = .returned v ∧ (∃ a' m c' q, v = .tuple #[.slice a' m c', .bool q] ∧ Kept (fun _ => True) wr W' ∧ PW W' (firstWay (supsOf CL) tgt k y) a' m c' q)) := fun V kV => by
          have k0V : Kept (fun _ => True) V0 V := ((kt HB1.out).trans hK.out).trans kV
          refine (HIH.out y V (by omega) (HS0.out.kept k0V (fun c hc => ⟨trivial, by have := HZ0.out; omega⟩)) (Nat.le_trans HZ0.out k0V.size)).mono ?_
          rintro e W' ⟨a', m', c', q, h1, h2, h3⟩
          exact ⟨_, h1, a', m', c', q, rfl, kV.trans (kt h2), h3⟩
        clear hc hd hy hil hfd hfe hbn
        go_upto_region 7 with fail
        go_cut [12, 13] (fun s12 s13 wx => ∃ a' m' c' q, s12 = .slice a' m' c' ∧ s13 = .bool q ∧ Kept (fun _ => True) wr wx ∧ PW wx (firstWay (supsOf CL) tgt k y) a' m' c' q)
        case first =>
          obtain ⟨d0, d1, d2, d3, d4, d5⟩ := HSQ.out wr (Kept.refl _ _)
          go_region_law (first
            | (refine step_call (by rfl) 19 #[.agg #[.slice a0 n0 c0, .slice a1 n1 c1, .slice a2 n2 c2, .slice a n cap, .slice a4 n4 c4], .string y, .string tgt, .int .i64 k] (by simp [go_sem, HWK.out]) _ (HCL.out _ (Kept.drew _ _)) ?_; rintro v w9 ⟨a', m', c', q, rfl, k9, hpw⟩; have HPW := hide hpw; have HK9 := hide k9; clear hpw k9))
          all_goals
            go_wp2_with fail
            go_meet
            case rel => exact ⟨_, _, _, _, rfl, rfl, HK9.out, HPW.out⟩
        case rest =>
          obtain ⟨a', m', c', q, rfl, rfl, hcb, hpw⟩ := hcut
          rename World => wx
          have HKx : Hid (Kept (fun _ => True) w1 wx) := hK.out.trans hcb
          have HKW : Hid (Kept (fun _ => True) wr wx) := hcb
          cases hw : firstWay (supsOf CL) tgt k y with
          | none =>
            rw [hw] at hpw
            have hq : q = false := hpw
            subst hq
            have HF2 : Hid (firstWay (supsOf CL) tgt (k + 1) x = (L.drop (i + 1)).findSome? fun s => (firstWay (supsOf CL) tgt k s).map (s :: ·)) := by
              have h := HFE.out
              rw [hw] at h
              exact h
            clear hpw hw hcb hK HCL HSQ HFE
            go_wp2_with fail
            go_roundw
            case rel => exact ⟨i + 1, by go_num, by omega, HF2, HKx⟩
            case measure => simp [intOf]; omega
          | some p =>
            rw [hw] at hpw
            obtain ⟨rfl, rfl, hsp⟩ := hpw
            have HF2 : Hid (firstWay (supsOf CL) tgt (k + 1) x = some (y :: p)) := by
              have h := HFE.out
              rw [hw] at h
              exact h
            have hpl := firstWay_len _ _ _ _ _ hw
            obtain ⟨-, -, -, -, -, d5⟩ := HSQ.out wx hcb
            obtain ⟨V2, hV2⟩ : ∃ V, wx.alloc (.cells #[.string y] 9) = V := ⟨_, rfl⟩
            have k2 : Kept (fun _ => True) wx V2 := by rw [← hV2]; exact Kept.alloc _ _ _
            have z2 : V2.heap.size = wx.heap.size + 1 := by rw [← hV2]; simp
            have HOWN : Hid (V2.ownsRow wx.heap.size 9 1 (.slice (some ⟨wx.heap.size, 0, none⟩) 1 1) 1 [.string y]) := by
              refine ⟨rfl, .inr ⟨wx.heap.size, 1, #[.string y], rfl, Nat.le_refl _, ?_, Nat.le_refl _, by unfold maxLen; omega, rfl, rfl⟩⟩
              rw [← hV2]
              exact (MapKept.heap_alloc wx _).1
            have HCK : Hid (0 < p.length → ∃ b' o', a' = some ⟨b', o', none⟩ ∧ Cel V2 (p.map Value.string) b' o') := fun hp => by
              obtain ⟨b', o', e, sb, hc⟩ := hsp.at_ (List.length_pos_iff.1 hp)
              refine ⟨b', o', e, fun j v hv => ?_⟩
              rw [List.getElem?_map] at hv
              cases hj : p[j]? with
              | none => rw [hj] at hv; cases hv
              | some s =>
                rw [hj] at hv
                cases hv
                exact (k2.cell (p := ⟨b', o' + j, none⟩) sb trivial).trans (hc j s hj)
            have H63 : Hid (1 + p.length ≤ maxLen ∧ (1 + p.length) * 16 ≤ 140737488355328) := by
              unfold Hid maxLen
              omega
            have HV2 := hide hV2
            have HZ2 : Hid (wx.heap.size ≤ V2.heap.size) := by unfold Hid; omega
            have HPL : Hid ((p.map Value.string).length = p.length * 1) := by unfold Hid; rw [List.length_map, Nat.mul_one]
            have HONE : Hid (∀ u ∈ p.map Value.string, u.oneCell' = true) := fun u hu => by
              obtain ⟨s, -, rfl⟩ := List.mem_map.1 hu
              rfl
            have HFIN : Hid (∀ v' w3, w3.ownsRow wx.heap.size 9 1 v' (1 + p.length) ([.string y] ++ p.map Value.string) → V2.grownBy w3 (some wx.heap.size) → ∃ ra rc, v' = .slice ra (p.length + 1) rc ∧ Below W.heap.size W w3 ∧ PW w3 (some (y :: p)) ra (p.length + 1) rc true) := fun v' w3 hO hG => by
              obtain ⟨ra, rc, rfl, hl, hsr⟩ := sr_row (L := y :: p) hO
              have k3 : Kept (fun c => c < wx.heap.size) V2 w3 := Kept.grown hG (fun g hg h => by have := Option.some.inj hg; omega)
              have kW1 : Kept (fun c => c < wx.heap.size) wx w3 := (k2.mono (fun _ _ _ => trivial)).trans k3
              have bW : Below W.heap.size W wx := Below.kept (HB0.out.trans (HB1.out.mono HB0.out.size)) HKx.out (fun _ _ => trivial) (Nat.le_refl _)
              have hzw := bW.size
              refine ⟨ra, rc, by rw [Nat.add_comm 1], Below.kept bW kW1 (fun c hc => by omega) (Nat.le_refl _), rfl, rfl, hsr⟩
            clear hw hcb hK HCL HSQ HFE hsp hpl hV2 k2 z2
            go_wp2_with (at_builtin; rw [HV2.out]; refine ur_step rfl _ _ 30 9 rfl Try.info9 Try.underlying30 rfl (by decide) wx.heap.size V2 (.slice (some ⟨wx.heap.size, 0, none⟩) 1 1) 1 [.string y] (p.map Value.string) a' p.length c' rfl rfl HZ2.out HOWN.out HCK.out HPL.out HONE.out H63.out.1 H63.out.2 ?_; rintro v' w3 hO3 hG3; obtain ⟨ra, rc, rfl, hbe, hpw⟩ := HFIN.out v' w3 hO3 hG3; have HBE := hide hbe; have HPW := hide hpw; clear hO3 hG3 hbe hpw)
            refine bodyPost_ret (v := .tuple #[.slice ra (p.length + 1) rc, .bool true]) (by simp [results, Try.results19, go_sem]) rfl ⟨_, _, _, _, rfl, HBE.out, ?_⟩
            rw [HF2.out]
            exact HPW.out
      · have HT : Hid (firstWay (supsOf CL) tgt (k + 1) x = none) := by
          unfold Hid
          rw [hfd.out, List.drop_eq_nil_of_le (by rw [← HM.out]; omega)]
          rfl
        have HBE : Hid (Below W.heap.size W wr) := Below.kept (HB0.out.trans (HB1.out.mono HB0.out.size)) hK.out (fun _ _ => trivial) (Nat.le_refl _)
        clear hfd hK
        go_wp2_with fail
        refine bodyPost_ret (v := .tuple #[.slice none 0 0, .bool false]) (by simp [results, Try.results19, go_sem]) rfl ⟨_, _, _, _, rfl, HBE.out, ?_⟩
        rw [HT.out]
        exact rfl

end Go.Proofs.Ythnmjebbeneloaa
