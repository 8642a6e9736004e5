import Derived.Test.YthnmjebbeneloaaJA
import Derived.Test.YthnmjebbeneloaaWm
import Derived.Test.YthnmjebbeneloaaUv
import Derived.Maps.OwnSet
namespace Go.Proofs.Ythnmjebbeneloaa
open Go.RowKit Go.Joins

/-- All superclasses that are told. -/
def allS : Fo → List ByteArray
  | .v _ (.s _ _ _ S (.s _ _ _ _ r)) => strs S ++ allS r
  | _ => []

theorem sups_all : ∀ (n : Nat) (CL : Fo), Fit E CL (rep (E 1) n) → (∀ x s, s ∈ supsOf CL x → s ∈ allS CL) ∧ (allS CL).length ≤ CL.wt
  | 0, CL, h => by
    have e := fit_nil h
    subst e
    exact ⟨fun x s hs => absurd hs List.not_mem_nil, Nat.le_refl _⟩
  | n + 1, CL, h => by
    replace h : Fit E CL ([.t, .s 0, .s 0] ++ rep (E 1) n) := h
    obtain ⟨x0, F0, rfl, -, h⟩ := fit_t h
    obtain ⟨p1, m1, e1, S1, F1, rfl, hS, h⟩ := fit_s h
    obtain ⟨p2, m2, e2, S2, F2, rfl, -, h⟩ := fit_s h
    obtain ⟨h1, h2⟩ := sups_all n F2 h
    have h3 := (strs_fit m1 S1 hS).2
    refine ⟨fun x s hs => ?_, ?_⟩
    · simp only [supsOf] at hs
      simp only [allS, List.mem_append]
      split at hs
      · exact .inl hs
      · exact .inr (h1 x s hs)
    · simp only [allS, List.length_append, Fo.wt]
      omega

/-- Three rows of texts of their own: what is seen, the level, the next one. -/
structure SL (V0 wr : World) (sv lv nv : Value) (SE LV NX : List ByteArray) : Prop where
  se : wr.ownsRow 0 9 1 sv SE.length (SE.map Value.string)
  le : wr.ownsRow 0 9 1 lv LV.length (LV.map Value.string)
  ne : wr.ownsRow 0 9 1 nv NX.length (NX.map Value.string)
  d1 : ∀ c, sv.ownBlock = some c → nv.ownBlock ≠ some c ∧ lv.ownBlock ≠ some c
  d2 : ∀ c, nv.ownBlock = some c → lv.ownBlock ≠ some c
  h1 : ∀ c, sv.ownBlock = some c → V0.heap.size ≤ c
  h2 : ∀ c, lv.ownBlock = some c → V0.heap.size ≤ c
  h3 : ∀ c, nv.ownBlock = some c → V0.heap.size ≤ c
  kp : Kept (fun c => c < V0.heap.size) V0 wr

theorem SL.keep {V0 wr wx : World} {sv lv nv : Value} {SE LV NX : List ByteArray} (h : SL V0 wr sv lv nv SE LV NX) (k : Kept (fun _ => True) wr wx) : SL V0 wx sv lv nv SE LV NX :=
  ⟨ownsRow_kept h.se k (fun _ _ => trivial), ownsRow_kept h.le k (fun _ _ => trivial), ownsRow_kept h.ne k (fun _ _ => trivial), h.d1, h.d2, h.h1, h.h2, h.h3, h.kp.trans (k.mono (fun _ _ _ => trivial))⟩

theorem own_lt {w : World} {B : Nat} {v : Value} {n : Nat} {xs : List Value} (h : w.ownsRow B 9 1 v n xs) : ∀ c, v.ownBlock = some c → c < w.heap.size := fun c hc => (World.ownsRow.lt h c hc).2

theorem SL.seen {V0 wr V w3 : World} {sv lv nv : Value} {SE LV NX : List ByteArray} {g cap : Nat} {s : ByteArray} (h : SL V0 wr sv lv nv SE LV NX) (k : Kept (fun _ => True) wr V) (hO : w3.ownsRow 0 9 1 (.slice (some ⟨g, 0, none⟩) (SE.length + 1) cap) (SE.length + 1) (SE.map Value.string ++ [.string s])) (hG : V.grownBy w3 sv.ownBlock) (hat : sv.ownBlock = some g ∨ g = V.heap.size) :
    SL V0 w3 (.slice (some ⟨g, 0, none⟩) (SE.length + 1) cap) lv nv (SE ++ [s]) LV NX := by
  have h' := h.keep k
  have kg : Kept (fun c => sv.ownBlock ≠ some c) V w3 := Kept.grown hG (fun c hc e => e hc)
  have hz := h'.kp.size
  refine ⟨by simpa using hO, ownsRow_kept h'.le kg (fun c hc e => (h.d1 c e).2 hc), ownsRow_kept h'.ne kg (fun c hc e => (h.d1 c e).1 hc), fun c hc => ?_, h.d2, fun c hc => ?_, h.h2, h.h3, ?_⟩
  · have e : g = c := Option.some.inj hc
    subst e
    rcases hat with e | e
    · exact h.d1 g e
    · exact ⟨fun e2 => by have := own_lt h'.ne g e2; omega, fun e2 => by have := own_lt h'.le g e2; omega⟩
  · have e : g = c := Option.some.inj hc
    subst e
    rcases hat with e | e
    · exact h.h1 g e
    · omega
  · exact h'.kp.trans (kg.mono (fun c _ hc e => by have := h.h1 c e; omega))

theorem SL.next {V0 wr V w3 : World} {sv lv nv : Value} {SE LV NX : List ByteArray} {g cap : Nat} {s : ByteArray} (h : SL V0 wr sv lv nv SE LV NX) (k : Kept (fun _ => True) wr V) (hO : w3.ownsRow 0 9 1 (.slice (some ⟨g, 0, none⟩) (NX.length + 1) cap) (NX.length + 1) (NX.map Value.string ++ [.string s])) (hG : V.grownBy w3 nv.ownBlock) (hat : nv.ownBlock = some g ∨ g = V.heap.size) :
    SL V0 w3 sv lv (.slice (some ⟨g, 0, none⟩) (NX.length + 1) cap) SE LV (NX ++ [s]) := by
  have h' := h.keep k
  have kg : Kept (fun c => nv.ownBlock ≠ some c) V w3 := Kept.grown hG (fun c hc e => e hc)
  have hz := h'.kp.size
  refine ⟨ownsRow_kept h'.se kg (fun c hc e => (h.d1 c hc).1 e), ownsRow_kept h'.le kg (fun c hc e => h.d2 c e hc), by simpa using hO, fun c hc => ⟨fun e => ?_, (h.d1 c hc).2⟩, fun c hc => ?_, h.h1, h.h2, fun c hc => ?_, ?_⟩
  · have e : g = c := Option.some.inj e
    subst e
    rcases hat with e | e
    · exact (h.d1 g hc).1 e
    · have := own_lt h'.se g hc
      omega
  · have e : g = c := Option.some.inj hc
    subst e
    rcases hat with e | e
    · exact h.d2 g e
    · exact fun e2 => by have := own_lt h'.le g e2; omega
  · have e : g = c := Option.some.inj hc
    subst e
    rcases hat with e | e
    · exact h.h3 g e
    · omega
  · exact h'.kp.trans (kg.mono (fun c _ hc e => by have := h.h3 c e; omega))

/-- The next level begins. -/
theorem SL.turn {V0 wr : World} {sv lv nv : Value} {SE LV NX : List ByteArray} (h : SL V0 wr sv lv nv SE LV NX) : SL V0 wr sv nv (.slice none 0 0) SE NX [] :=
  ⟨h.se, h.ne, ⟨rfl, .inl ⟨rfl, rfl⟩⟩, fun c hc => ⟨fun e => (by cases e), (h.d1 c hc).1⟩, fun c hc => (by cases hc), h.h1, h.h3, fun c hc => (by cases hc), h.kp⟩

/-- An empty row. -/
theorem SL.open_ {V0 wr : World} {sv lv nv : Value} {SE LV NX : List ByteArray} (h : SL V0 wr sv lv nv SE LV NX) : SL V0 (wr.alloc (.cells #[] 9)) sv lv (.slice (some ⟨wr.heap.size, 0, none⟩) 0 0) SE LV [] := by
  have h' := h.keep (Kept.alloc (fun _ => True) wr (.cells #[] 9))
  have hz := h.kp.size
  refine ⟨h'.se, h'.le, ⟨rfl, .inr ⟨wr.heap.size, 0, #[], rfl, Nat.zero_le _, (MapKept.heap_alloc wr _).1, Nat.le_refl _, Nat.zero_le _, rfl, rfl⟩⟩, fun c hc => ⟨fun e => ?_, (h.d1 c hc).2⟩, fun c hc => ?_, h.h1, h.h2, fun c hc => ?_, h'.kp⟩
  · have e1 : wr.heap.size = c := Option.some.inj e
    have := own_lt h.se c hc
    omega
  · have e1 : wr.heap.size = c := Option.some.inj hc
    intro e
    have := own_lt h.le c e
    omega
  · have e1 : wr.heap.size = c := Option.some.inj hc
    omega

end Go.Proofs.Ythnmjebbeneloaa

namespace Go.Proofs.Ythnmjebbeneloaa
open Go.RowKit Go.Joins

theorem SR.of_row {wr : World} {a : Option Addr} {c : Nat} {L : List ByteArray} (h : wr.ownsRow 0 9 1 (.slice a L.length c) L.length (L.map Value.string)) : SR wr (fun b => b < wr.heap.size) a c L := by
  obtain ⟨a', c', e, -, hs⟩ := sr_row h
  cases e
  exact hs

theorem row_slice {wr : World} {v : Value} {L : List ByteArray} (h : wr.ownsRow 0 9 1 v L.length (L.map Value.string)) : ∃ a c, v = .slice a L.length c := by
  obtain ⟨a', c', e, -, -⟩ := sr_row h
  exact ⟨a', c', e⟩

theorem SR.back {A B : World} {S T : Nat → Prop} {a : Option Addr} {c : Nat} {L : List ByteArray} (h : SR B S a c L) (k : Kept T A B) (hS : ∀ b, S b → T b ∧ b < A.heap.size) : SR A S a c L :=
  ⟨h.le, h.mx, fun hl => by
    obtain ⟨b, o, e, s, hc⟩ := h.at_ hl
    exact ⟨b, o, e, s, fun i x hx => ((k.cell (p := ⟨b, o + i, none⟩) (hS b s).2 (hS b s).1).symm).trans (hc i x hx)⟩⟩

theorem fresh_len {s a b : List ByteArray} : (fresh s a).length ≤ (fresh s (a ++ b)).length := by
  rw [fresh_append, List.length_append]
  omega

theorem split_at {sup : ByteArray → List ByteArray} {L : List ByteArray} {i : Nat} {u : ByteArray} (h : L[i]? = some u) (k : Nat) : ∃ r, L.flatMap sup = ((L.take i).flatMap sup ++ (sup u).take k) ++ r := by
  obtain ⟨hi, e⟩ := List.getElem?_eq_some_iff.1 h
  refine ⟨(sup u).drop k ++ (L.drop (i + 1)).flatMap sup, ?_⟩
  have h1 : L = L.take i ++ (u :: L.drop (i + 1)) := by
    rw [← e, ← List.drop_eq_getElem_cons hi, List.take_append_drop]
  have h2 : sup u = (sup u).take k ++ (sup u).drop k := (List.take_append_drop k (sup u)).symm
  conv => lhs; rw [h1]
  rw [List.flatMap_append, List.flatMap_cons]
  conv => lhs; rw [h2]
  simp only [List.append_assoc]

theorem take_snoc {L : List ByteArray} {i : Nat} {y : ByteArray} (h : L[i]? = some y) : L.take (i + 1) = L.take i ++ [y] := by
  rw [List.take_add_one, h]
  rfl

set_option maxHeartbeats 8000000 in
set_option maxRecDepth 100000 in
/-- The model's SuperPath. -/
theorem m_SuperPath (v0 v1 v2 v4 : Value) (a : Option Addr) (n cap : Nat) (CL : Fo) (fr tg : ByteArray) (W : World) (h0 : ∃ a n c, v0 = .slice a n c) (h1 : ∃ a n c, v1 = .slice a n c) (h2 : ∃ a n c, v2 = .slice a n c) (h4 : ∃ a n c, v4 = .slice a n c) (hf : Fit E CL (rep (E 1) n)) (hwt : CL.wt ≤ 1048576) (hs : CL.Sub W (fun c => c < W.heap.size) a n cap) :
    Calls Try.prog 5 #[.agg #[v0, v1, v2, .slice a n cap, v4], .string fr, .string tg] W fun e W' => ∃ ra rc R, e = .returned (.slice ra R.length rc) ∧ SP (supsOf CL) fr tg R ∧ SR W' (fun c => c < W'.heap.size) ra rc R ∧ Below W.heap.size W W' := by
  have HSUP := hide (fun x V (hV : CL.Sub V (fun c => c < W.heap.size) a n cap) (hz : W.heap.size ≤ V.heap.size) => m_sups v0 v1 v2 v4 a n cap CL x W.heap.size V h0 h1 h2 h4 hf hV hz)
  have HPATH := hide (fun k V (hk : k ≤ 1048577) (hV : CL.Sub V (fun c => c < W.heap.size) a n cap) (hz : W.heap.size ≤ V.heap.size) => m_path v0 v1 v2 v4 a n cap CL tg W.heap.size h0 h1 h2 h4 hf k fr V hk hV hz)
  obtain ⟨a0, n0, c0, rfl⟩ := h0
  obtain ⟨a1, n1, c1, rfl⟩ := h1
  obtain ⟨a2, n2, c2, rfl⟩ := h2
  obtain ⟨a4, n4, c4, rfl⟩ := h4
  obtain ⟨hU, hUl⟩ := sups_all n CL hf
  have HLEN : Hid (∀ m, (levN (supsOf CL) fr m).2.length + (levN (supsOf CL) fr m).1.length ≤ 1048577) := fun m => by
    have := levN_len (supsOf CL) fr (allS CL) hU m
    omega
  obtain ⟨V0, hV0⟩ : ∃ V, W.alloc (.cells #[.slice a0 n0 c0, .slice a1 n1 c1, .slice a2 n2 c2, .slice a n cap, .slice a4 n4 c4] 38) = V := ⟨_, rfl⟩
  have b0 : Below W.heap.size W V0 := by rw [← hV0]; exact below_alloc1 _ _
  have HQ0 : Hid (Bx V0 W.heap.size [.slice a0 n0 c0, .slice a1 n1 c1, .slice a2 n2 c2, .slice a n cap, .slice a4 n4 c4]) := by unfold Hid; rw [← hV0]; exact Bx.new _ _ _
  have HZ0 : Hid (V0.heap.size = W.heap.size + 1) := by unfold Hid; rw [← hV0]; simp
  have HS0 := hide (hs.below b0 (fun c hc => hc))
  have HB0 := hide b0
  have HV0 := hide hV0
  clear hV0 b0 hs hf hU hUl hwt
  by_cases hft : fr = tg
  · have HSP : Hid (SP (supsOf CL) fr tg []) := .inl ⟨hft, rfl⟩
    have HBB : Hid (Below W.heap.size W (V0.alloc (.cells #[] 9))) := HB0.out.trans ((below_alloc1 V0 _).mono HB0.out.size)
    subst hft
    go_enter Try.func5, Try.ntmps5
    go_upto_region 1 with fail
    rw [HV0.out]
    clear HV0
    go_wp2_with fail
    go_ret
    exact ⟨_, _, [], rfl, HSP.out, SR.nil _ _ _ _ (Nat.zero_le _), HBB.out⟩
  · have HFT := hide hft
    have hft' := list_ne hft
    have HSL0 : Hid (SL V0 ((V0.alloc (.cells #[.string fr] 9)).alloc (.cells #[.string fr] 9)) (.slice (some ⟨V0.heap.size, 0, none⟩) 1 1) (.slice (some ⟨V0.heap.size + 1, 0, none⟩) 1 1) (.slice none 0 0) [fr] [fr] []) := by
      have hz : (V0.alloc (.cells #[.string fr] 9)).heap.size = V0.heap.size + 1 := by simp
      refine ⟨⟨rfl, .inr ⟨V0.heap.size, 1, #[.string fr], rfl, Nat.zero_le _, ?_, Nat.le_refl _, by unfold maxLen; omega, rfl, rfl⟩⟩, ⟨rfl, .inr ⟨V0.heap.size + 1, 1, #[.string fr], rfl, Nat.zero_le _, ?_, Nat.le_refl _, by unfold maxLen; omega, rfl, rfl⟩⟩, ⟨rfl, .inl ⟨rfl, rfl⟩⟩, fun c hc => ⟨fun e => (by cases e), fun e => ?_⟩, fun c hc => (by cases hc), fun c hc => ?_, fun c hc => ?_, fun c hc => (by cases hc), ?_⟩
      · exact (Below.heap_alloc _ _ _ (by simp)).trans (MapKept.heap_alloc V0 _).1
      · have := (MapKept.heap_alloc (V0.alloc (.cells #[.string fr] 9)) (.cells #[.string fr] 9)).1
        rwa [hz] at this
      · have e1 : V0.heap.size = c := Option.some.inj hc
        have e2 : V0.heap.size + 1 = c := Option.some.inj e
        omega
      · have e1 : V0.heap.size = c := Option.some.inj hc
        omega
      · have e1 : V0.heap.size + 1 = c := Option.some.inj hc
        omega
      · exact (Kept.alloc _ _ _).trans (Kept.alloc _ _ _)
    have HTN0 : Hid (tg ∉ (levN (supsOf CL) fr 0).2 ++ (levN (supsOf CL) fr 0).1) := fun h => by
      have e : tg = fr := by simpa [levN] using h
      exact hft e.symm
    clear hft
    go_enter Try.func5, Try.ntmps5
    go_upto_region 1 with fail
    rw [HV0.out]
    clear HV0
    go_wp2_with fail
    go_loopw [7, 8, 9] (fun s7 s8 s9 wr => ∃ (m : Nat) (sa la : Option Addr) (sc lc sl ll : Nat), s7 = .slice sa sl sc ∧ s8 = .slice la ll lc ∧ s9 = .int .i64 ((m : Int) + 1) ∧ m ≤ 1048577 ∧ Hid (sl = ((levN (supsOf CL) fr m).2 ++ (levN (supsOf CL) fr m).1).length ∧ ll = (levN (supsOf CL) fr m).1.length) ∧ Hid (tg ∉ (levN (supsOf CL) fr m).2 ++ (levN (supsOf CL) fr m).1) ∧ Hid (SL V0 wr (.slice sa sl sc) (.slice la ll lc) (.slice none 0 0) ((levN (supsOf CL) fr m).2 ++ (levN (supsOf CL) fr m).1) (levN (supsOf CL) fr m).1 [])) (fun _ _ s9 _ => 1048579 - (intOf s9).toNat)
    case atStart => exact ⟨0, _, _, _, _, _, _, rfl, rfl, rfl, Nat.zero_le _, ⟨rfl, rfl⟩, HTN0, HSL0⟩
    case round =>
      obtain ⟨m, sa, la, sc, lc, sl, ll, rfl, rfl, rfl, hm, hlen, hTN, hSL⟩ := hrel
      obtain ⟨LV, hLV⟩ : ∃ LV, LV = (levN (supsOf CL) fr m).1 := ⟨_, rfl⟩
      obtain ⟨SE, hSE⟩ : ∃ SE, SE = (levN (supsOf CL) fr m).2 ++ (levN (supsOf CL) fr m).1 := ⟨_, rfl⟩
      rw [← hSE, ← hLV] at hSL hlen
      rw [← hSE] at hTN
      have HLV := hide hLV
      have HSE := hide hSE
      clear hLV hSE
      by_cases hl0 : ll = 0
      · have HLN : Hid (LV = []) := List.length_eq_zero_iff.1 (by rw [← hlen.out.2]; exact hl0)
        have HSP : Hid (SP (supsOf CL) fr tg []) := SP.none (n := m) HFT.out (by rw [← HLV.out]; exact HLN.out) (fun h => hTN.out (by rw [HSE.out]; exact List.mem_append_left _ h))
        have HBB : Hid (Below W.heap.size W (wr.alloc (.cells #[] 9))) := Below.kept (Below.kept HB0.out hSL.out.kp (fun c hc => by have := HZ0.out; omega) (Nat.le_refl _)) (Kept.alloc (fun _ => True) _ _) (fun _ _ => trivial) (Nat.le_refl _)
        subst hl0
        go_wp2_with fail
        go_ret
        exact ⟨_, _, [], rfl, HSP.out, SR.nil _ _ _ _ (Nat.zero_le _), HBB.out⟩
      · have hlp : (0 : Int) < ll := by omega
        have hlq : 0 < ll := by omega
        have hlx : ll ≤ 9223372036854775807 := by
          have h1 := hlen.out.2
          have h2 := HLEN.out m
          rw [← HLV.out] at h2
          omega
        have HM1 : Hid (m + 1 ≤ 1048577) := by
          have h1 := hlen.out.2
          have h2 := HLEN.out m
          have h3 := levN_far (supsOf CL) fr m (by rw [← HLV.out]; intro e; rw [e] at h1; exact hl0 h1)
          rw [← HLV.out] at h2
          unfold Hid
          omega
        have HSL1 := hide hSL.out.open_
        obtain ⟨V1, hV1⟩ : ∃ V, wr.alloc (.cells #[] 9) = V := ⟨_, rfl⟩
        rw [hV1] at HSL1
        have HV1 := hide hV1
        clear hV1 hSL hl0
        go_upto_region 9 with fail
        rw [HV1.out]
        clear HV1
        go_wp2_with fail
        go_loopw [7, 10, 11] (fun s7 s10 s11 wr => ∃ (i : Nat) (sa na : Option Addr) (sc nc sl nl : Nat) (NX : List ByteArray), s7 = .slice sa sl sc ∧ s10 = .slice na nl nc ∧ s11 = .int .i64 i ∧ i ≤ ll ∧ Hid (sl = (SE ++ NX).length ∧ nl = NX.length ∧ NX = fresh SE ((LV.take i).flatMap (supsOf CL))) ∧ Hid (tg ∉ SE ++ NX) ∧ Hid (SL V0 wr (.slice sa sl sc) (.slice la ll lc) (.slice na nl nc) (SE ++ NX) LV NX)) (fun _ _ s11 _ => ll - (intOf s11).toNat)
        case atStart => exact ⟨0, _, _, _, _, _, _, [], rfl, rfl, rfl, Nat.zero_le _, ⟨by rw [List.append_nil]; exact hlen.out.1, rfl, rfl⟩, by rw [List.append_nil]; exact hTN, by rw [List.append_nil]; exact HSL1⟩
        case round =>
          clear HSL1
          obtain ⟨i, sb, na, sc2, nc, sl2, nl, NX, rfl, rfl, rfl, hi, hl2, hTN2, hSL2⟩ := hrel
          by_cases hil : i < ll
          · have hii : (i : Int) < ll := by omega
            have hiL : i < LV.length := by rw [← hlen.out.2]; exact hil
            obtain ⟨u, hu⟩ : ∃ u, LV[i]? = some u := ⟨_, List.getElem?_eq_getElem hiL⟩
            have hle := hSL2.out.le
            rw [← hlen.out.2] at hle
            have hsl : SR wr (fun b => b < wr.heap.size) la lc LV := by
              have h := hSL2.out.le
              have e := hlen.out.2
              rw [e] at h
              exact SR.of_row h
            obtain ⟨b, o, rfl, hbl, hcl⟩ := hsl.at_ (List.length_pos_iff.1 (by omega))
            have hlv := hcl i u hu
            have hzz := HZ0.out
            have q0 : Bx wr W.heap.size [.slice a0 n0 c0, .slice a1 n1 c1, .slice a2 n2 c2, .slice a n cap, .slice a4 n4 c4] := HQ0.out.kept hSL2.out.kp (by omega)
            have d0 := q0.cel 0 _ rfl
            have d1 := q0.cel 1 _ rfl
            have d2 := q0.cel 2 _ rfl
            have d3 := q0.cel 3 _ rfl
            have d4 := q0.cel 4 _ rfl
            have HCS : Hid (∀ V, Kept (fun _ => True) wr V → Calls Try.prog 18 #[.agg #[.slice a0 n0 c0, .slice a1 n1 c1, .slice a2 n2 c2, .slice a n cap, .slice a4 n4 c4], .string u] V fun e W' => ∃ v, e = .returned v ∧ (∃ pa pc, v = .slice pa (supsOf CL u).length pc ∧ SR V0 (fun c => c < W.heap.size) pa pc (supsOf CL u) ∧ Kept (fun _ => True) wr W')) := fun V kV => by
              have k0V : Kept (fun c => c < V0.heap.size) V0 V := hSL2.out.kp.trans (kV.mono (fun _ _ _ => trivial))
              have hz := k0V.size
              refine (HSUP.out u V (HS0.out.kept k0V (fun c hc => ⟨by omega, by omega⟩)) (by omega)).mono ?_
              rintro e W' ⟨pa, pc, h1, h2, h3⟩
              exact ⟨_, h1, pa, pc, rfl, h2.back k0V (fun c hc => ⟨by omega, by omega⟩), kV.trans (kt h3)⟩
            have HU := hide hu
            have HSL2 := hide hSL2.out
            clear hle hsl hcl hu hzz q0 hbl hSL2 hiL
            go_upto_region 12 with fail
            go_cut [12] (fun s12 wx => ∃ pa pc, s12 = .slice pa (supsOf CL u).length pc ∧ Hid (SR V0 (fun c => c < W.heap.size) pa pc (supsOf CL u)) ∧ Kept (fun _ => True) wr wx)
            case first =>
              go_region_law (first
                | (refine step_call (by rfl) 18 #[.agg #[.slice a0 n0 c0, .slice a1 n1 c1, .slice a2 n2 c2, .slice a n cap, .slice a4 n4 c4], .string u] (by simp [go_sem]) _ (HCS.out _ (Kept.drew _ _)) ?_; rintro v w9 ⟨pa, pc, rfl, hsr, k9⟩; have HSR := hide hsr; have HK9 := hide k9; clear hsr k9))
              all_goals
                go_wp2_with fail
                go_meet
                case rel => exact ⟨_, _, rfl, HSR, HK9.out⟩
            case rest =>
              obtain ⟨pa, pc, rfl, HSRP, hcb⟩ := hcut
              rename World => wx
              have HSL3 := hide (HSL2.out.keep hcb)
              obtain ⟨P, hP⟩ : ∃ P, P = supsOf CL u := ⟨_, rfl⟩
              rw [← hP] at HSRP
              obtain ⟨pl, hpl⟩ : ∃ pl, pl = P.length := ⟨_, rfl⟩
              rw [← hP, ← hpl]
              have hpx : pl ≤ 9223372036854775807 := by have h2 := HSRP.out.le; have h3 := HSRP.out.mx; simp only [maxLen] at h3; omega
              have HP := hide hP
              have HPL := hide hpl
              clear hP hpl hcb HSL2 d0 d1 d2 d3 d4 hlv HCS
              go_wp2_with fail
              go_loopw [7, 10, 13] (fun s7 s10 s13 wr => ∃ (k : Nat) (sa na : Option Addr) (sc nc sl nl : Nat) (NX : List ByteArray), s7 = .slice sa sl sc ∧ s10 = .slice na nl nc ∧ s13 = .int .i64 k ∧ k ≤ pl ∧ Hid (sl = (SE ++ NX).length ∧ nl = NX.length ∧ NX = fresh SE ((LV.take i).flatMap (supsOf CL) ++ P.take k)) ∧ Hid (tg ∉ SE ++ NX) ∧ Hid (SL V0 wr (.slice sa sl sc) (.slice (some ⟨b, o, none⟩) ll lc) (.slice na nl nc) (SE ++ NX) LV NX)) (fun _ _ s13 _ => pl - (intOf s13).toNat)
              case atStart => exact ⟨0, _, _, _, _, _, _, NX, rfl, rfl, rfl, Nat.zero_le _, ⟨hl2.out.1, hl2.out.2.1, by rw [List.take_zero, List.append_nil]; exact hl2.out.2.2⟩, hTN2, HSL3⟩
              case round =>
                clear HSL3 hTN2 hl2
                obtain ⟨k, sd, nd, sc3, nc3, sl3, nl3, NX3, rfl, rfl, rfl, hk, hl3, hTN3, hSL3⟩ := hrel
                by_cases hkl : k < pl
                · have hkk : (k : Int) < pl := by omega
                  have hkP : k < P.length := by rw [← HPL.out]; exact hkl
                  obtain ⟨y, hy⟩ : ∃ y, P[k]? = some y := ⟨_, List.getElem?_eq_getElem hkP⟩
                  obtain ⟨pb, po, rfl, hpb, hcp⟩ := HSRP.out.at_ (List.length_pos_iff.1 (by omega))
                  have hzz := HZ0.out
                  have HCY : Hid (∀ V, Kept (fun c => c < V0.heap.size) V0 V → V.cell? ⟨pb, po + k, none⟩ = some (.string y)) := fun V kV => (kV.cell (p := ⟨pb, po + k, none⟩) (by show pb < _; have hpb' : pb < W.heap.size := hpb; omega) (show pb < V0.heap.size by have hpb' : pb < W.heap.size := hpb; omega)).trans (hcp k y hy)
                  have hcy := HCY.out wr hSL3.out.kp
                  have HY := hide hy
                  have HLB : Hid ((SE ++ NX3).length ≤ 1048577) := by
                    obtain ⟨r, hr⟩ := split_at (sup := supsOf CL) HU.out k
                    have h1 := HLEN.out (m + 1)
                    have h2 : (levN (supsOf CL) fr (m + 1)).1 = fresh SE (LV.flatMap (supsOf CL)) := by rw [HSE.out, HLV.out]; rfl
                    have h3 : (levN (supsOf CL) fr (m + 1)).2 = SE := by rw [HSE.out]; rfl
                    have h4 := fresh_len (s := SE) (a := (LV.take i).flatMap (supsOf CL) ++ (supsOf CL u).take k) (b := r)
                    rw [h2, h3, hr] at h1
                    rw [← HP.out, ← hl3.out.2.2] at h4
                    unfold Hid
                    rw [List.length_append]
                    rw [HP.out] at h4
                    omega
                  clear hcp hpb hkP hy hzz
                  by_cases hyt : y = tg
                  · have HMEM : Hid (tg ∈ (levN (supsOf CL) fr (m + 1)).1) := by
                      have h2 : (levN (supsOf CL) fr (m + 1)).1 = fresh SE (LV.flatMap (supsOf CL)) := by rw [HSE.out, HLV.out]; rfl
                      unfold Hid
                      rw [h2]
                      have h3 : tg ∈ LV.flatMap (supsOf CL) := List.mem_flatMap.2 ⟨u, List.mem_of_getElem? HU.out, by rw [← HP.out, ← hyt]; exact List.mem_of_getElem? HY.out⟩
                      exact (fresh_all _ SE tg h3).resolve_left (fun h => hTN3.out (List.mem_append_left _ h))
                    obtain ⟨R, hfw, hsp⟩ := SP.found HFT.out HMEM.out
                    have hzz := HZ0.out
                    have q0 : Bx wr W.heap.size [.slice a0 n0 c0, .slice a1 n1 c1, .slice a2 n2 c2, .slice a n cap, .slice a4 n4 c4] := HQ0.out.kept hSL3.out.kp (by omega)
                    have d0 := q0.cel 0 _ rfl
                    have d1 := q0.cel 1 _ rfl
                    have d2 := q0.cel 2 _ rfl
                    have d3 := q0.cel 3 _ rfl
                    have d4 := q0.cel 4 _ rfl
                    have hz3 := hSL3.out.kp.size
                    have HPC := hide (HPATH.out (m + 1) wr HM1.out (HS0.out.kept hSL3.out.kp (fun c hc => ⟨by omega, by omega⟩)) (by omega))
                    rw [hfw, show ((m + 1 : Nat) : Int) = (m : Int) + 1 by omega] at HPC
                    have HSPR := hide hsp
                    have HBW : Hid (Below W.heap.size W wr) := Below.kept HB0.out hSL3.out.kp (fun c hc => by omega) (Nat.le_refl _)
                    subst hyt
                    clear hfw hsp hzz q0 hz3 hSL3 hTN3 hl3 HMEM
                    go_wp2_with fail
                    refine HPC.out.mono ?_
                    rintro e w9 ⟨ra, rm, rc, q, rfl, b9, hpw⟩
                    obtain ⟨rfl, rfl, hsr⟩ := hpw
                    have HSR := hide hsr
                    have HB9 : Hid (Below W.heap.size W w9) := HBW.out.trans (b9.mono HBW.out.size)
                    clear hsr b9 HPC
                    go_wp2_with fail
                    go_ret
                    exact ⟨_, _, R, rfl, HSPR.out, HSR.out, HB9.out⟩
                  · have hyt' := list_ne hyt
                    obtain ⟨q, hq⟩ : ∃ q : Bool, q = true ↔ y ∈ SE ++ NX3 := by
                      by_cases h : y ∈ SE ++ NX3
                      · exact ⟨true, by simp only [true_iff]; exact h⟩
                      · exact ⟨false, by simp only [Bool.false_eq_true, false_iff]; exact h⟩
                    have hse : wr.ownsRow 0 9 1 (.slice sd sl3 sc3) sl3 ((SE ++ NX3).map Value.string) := by
                      have h := hSL3.out.se
                      rw [← hl3.out.1] at h
                      exact h
                    have HIN : Hid (Calls Try.prog 20 #[.slice sd sl3 sc3, .string y] wr fun e W' => e = .returned (.bool q) ∧ Below wr.heap.size wr W') := by
                      have h := hSL3.out.se
                      have e := hl3.out.1
                      rw [e] at h ⊢
                      exact m_in sd sc3 (SE ++ NX3) y wr _ (SR.of_row h) q hq
                    have HQ := hide hq
                    have HNEW : Hid ((y ∈ SE ++ NX3 → fresh SE ((LV.take i).flatMap (supsOf CL) ++ P.take (k + 1)) = NX3) ∧ (y ∉ SE ++ NX3 → fresh SE ((LV.take i).flatMap (supsOf CL) ++ P.take (k + 1)) = NX3 ++ [y])) := by
                      have h := fresh_snoc SE ((LV.take i).flatMap (supsOf CL) ++ P.take k) y
                      rw [← hl3.out.2.2] at h
                      unfold Hid
                      rw [take_snoc HY.out, ← List.append_assoc]
                      exact ⟨fun h1 => by rw [h, if_pos h1], fun h1 => by rw [h, if_neg h1]⟩
                    have HYT := hide hyt
                    clear hq hse hyt
                    go_wp2_with fail
                    refine HIN.out.mono ?_
                    rintro e w9 ⟨rfl, b9⟩
                    have HSL9 := hide (hSL3.out.keep (kt b9))
                    have hc9 := HCY.out w9 HSL9.out.kp
                    clear b9 HIN hcy
                    cases q with
                    | true =>
                      have HRES : Hid (sl3 = (SE ++ NX3).length ∧ nl3 = NX3.length ∧ NX3 = fresh SE ((LV.take i).flatMap (supsOf CL) ++ P.take (k + 1))) := by
                        refine ⟨hl3.out.1, hl3.out.2.1, ?_⟩
                        rw [HNEW.out.1 (HQ.out.1 rfl)]
                      have HT3 := hide hTN3.out
                      clear hTN3 hl3 hSL3 HNEW
                      go_wp2_with fail
                      go_roundw
                      case rel => exact ⟨k + 1, _, _, _, _, _, _, NX3, rfl, rfl, by go_num, by omega, HRES, HT3, HSL9⟩
                      case measure => simp [intOf]; omega
                    | false =>
                      have hnin : y ∉ SE ++ NX3 := fun h => by have := HQ.out.2 h; cases this
                      have HRES : Hid (sl3 + 1 = (SE ++ (NX3 ++ [y])).length ∧ nl3 + 1 = (NX3 ++ [y]).length ∧ NX3 ++ [y] = fresh SE ((LV.take i).flatMap (supsOf CL) ++ P.take (k + 1))) := by
                        refine ⟨by rw [hl3.out.1]; simp only [List.length_append, List.length_cons, List.length_nil]; omega, by rw [hl3.out.2.1]; simp, ?_⟩
                        rw [HNEW.out.2 hnin]
                      have HT3 : Hid (tg ∉ SE ++ (NX3 ++ [y])) := fun h => by
                        rw [← List.append_assoc] at h
                        rcases List.mem_append.1 h with h | h
                        · exact hTN3.out h
                        · exact HYT.out (List.mem_singleton.1 h).symm
                      obtain ⟨V5, hV5⟩ : ∃ V, w9.alloc (.cells #[.string y] 9) = V := ⟨_, rfl⟩
                      have k5 : Kept (fun _ => True) w9 V5 := by rw [← hV5]; exact Kept.alloc _ _ _
                      have HBL : Hid (V5.heap[w9.heap.size]? = some (.cells [Value.string y].toArray 9)) := by unfold Hid; rw [← hV5]; exact (MapKept.heap_alloc w9 _).1
                      have e1 := hl3.out.1
                      have e2 := hl3.out.2.1
                      have HOS : Hid (V5.ownsRow 0 9 1 (.slice sd sl3 sc3) sl3 ((SE ++ NX3).map Value.string)) := by
                        have h := (HSL9.out.keep k5).se
                        rw [← e1] at h
                        exact h
                      have H63 : Hid ((sl3 + 1 ≤ maxLen ∧ (sl3 + 1) * 16 ≤ 140737488355328) ∧ nl3 + 1 ≤ maxLen ∧ (nl3 + 1) * 16 ≤ 140737488355328) := by
                        have h := HLB.out
                        have h' := h
                        rw [List.length_append] at h'
                        unfold Hid maxLen
                        omega
                      have HS5 : Hid (∀ g5 q5 w5, w5.ownsRow 0 9 1 (.slice (some ⟨g5, 0, none⟩) (sl3 + 1) q5) (sl3 + 1) ((SE ++ NX3).map Value.string ++ [.string y]) → V5.grownBy w5 (Value.slice sd sl3 sc3).ownBlock → ((Value.slice sd sl3 sc3).ownBlock = some g5 ∨ g5 = V5.heap.size) → SL V0 w5 (.slice (some ⟨g5, 0, none⟩) (sl3 + 1) q5) (.slice (some ⟨b, o, none⟩) ll lc) (.slice nd nl3 nc3) (SE ++ NX3 ++ [y]) LV NX3) := fun g5 q5 w5 hO hG hat => by
                        have h := SL.seen (g := g5) (cap := q5) (s := y) HSL9.out k5 (by rw [← e1]; exact hO) hG hat
                        rw [← e1] at h
                        exact h
                      have HS6 : Hid (∀ w5 V6 g5 q5 g6 q6 w6, SL V0 w5 (.slice (some ⟨g5, 0, none⟩) (sl3 + 1) q5) (.slice (some ⟨b, o, none⟩) ll lc) (.slice nd nl3 nc3) (SE ++ NX3 ++ [y]) LV NX3 → Kept (fun _ => True) w5 V6 → w6.ownsRow 0 9 1 (.slice (some ⟨g6, 0, none⟩) (nl3 + 1) q6) (nl3 + 1) (NX3.map Value.string ++ [.string y]) → V6.grownBy w6 (Value.slice nd nl3 nc3).ownBlock → ((Value.slice nd nl3 nc3).ownBlock = some g6 ∨ g6 = V6.heap.size) → SL V0 w6 (.slice (some ⟨g5, 0, none⟩) (sl3 + 1) q5) (.slice (some ⟨b, o, none⟩) ll lc) (.slice (some ⟨g6, 0, none⟩) (nl3 + 1) q6) (SE ++ (NX3 ++ [y])) LV (NX3 ++ [y])) := fun w5 V6 g5 q5 g6 q6 w6 h5 k6 hO hG hat => by
                        have h := SL.next (g := g6) (cap := q6) (s := y) h5 k6 (by rw [← e2]; exact hO) hG hat
                        rw [← e2, List.append_assoc] at h
                        exact h
                      have HON : Hid (∀ w5 V6 g5 q5, SL V0 w5 (.slice (some ⟨g5, 0, none⟩) (sl3 + 1) q5) (.slice (some ⟨b, o, none⟩) ll lc) (.slice nd nl3 nc3) (SE ++ NX3 ++ [y]) LV NX3 → Kept (fun _ => True) w5 V6 → V6.ownsRow 0 9 1 (.slice nd nl3 nc3) nl3 (NX3.map Value.string)) := fun w5 V6 g5 q5 h5 k6 => by
                        have h := (h5.keep k6).ne
                        rw [← e2] at h
                        exact h
                      have HV5 := hide hV5
                      clear hTN3 hl3 hSL3 HNEW hV5 k5 hnin e1 e2 HSL9
                      go_upto_region 21 with (at_builtin; rw [HV5.out]; refine ur_stepL rfl _ _ 30 9 rfl Try.info9 Try.underlying30 rfl (by decide) 0 V5 (.slice sd sl3 sc3) sl3 ((SE ++ NX3).map Value.string) [.string y] w9.heap.size 1 rfl rfl (Nat.zero_le _) HOS.out HBL.out rfl (by simp [Value.oneCell']) H63.out.1.1 H63.out.1.2 ?_; rintro g5 q5 w5 hO5 hG5 hat5; have HSL5 := hide (HS5.out g5 q5 w5 hO5 hG5 hat5); have hc5 := HCY.out w5 HSL5.out.kp; clear hO5 hG5 hat5)
                      have HBL6 : Hid ((w5.alloc (.cells #[.string y] 9)).heap[w5.heap.size]? = some (.cells [Value.string y].toArray 9)) := (MapKept.heap_alloc w5 _).1
                      go_wp2_with (at_builtin; refine ur_stepL rfl _ _ 30 9 rfl Try.info9 Try.underlying30 rfl (by decide) 0 _ (.slice nd nl3 nc3) nl3 (NX3.map Value.string) [.string y] w5.heap.size 1 rfl rfl (Nat.zero_le _) (HON.out _ _ _ _ HSL5.out (Kept.alloc _ _ _)) HBL6.out rfl (by simp [Value.oneCell']) H63.out.2.1 H63.out.2.2 ?_; rintro g6 q6 w6 hO6 hG6 hat6; have HSL6 := hide (HS6.out _ _ _ _ g6 q6 w6 HSL5.out (Kept.alloc _ _ _) hO6 hG6 hat6); clear hO6 hG6 hat6)
                      go_roundw
                      case rel => exact ⟨k + 1, _, _, _, _, _, _, NX3 ++ [y], rfl, rfl, by go_num, by omega, HRES, HT3, HSL6⟩
                      case measure => simp [intOf]; omega
                · have hkk : ¬ (k : Int) < pl := by omega
                  have HRES : Hid (sl3 = (SE ++ NX3).length ∧ nl3 = NX3.length ∧ NX3 = fresh SE ((LV.take (i + 1)).flatMap (supsOf CL))) := by
                    refine ⟨hl3.out.1, hl3.out.2.1, ?_⟩
                    rw [hl3.out.2.2, List.take_of_length_le (l := P) (by rw [← HPL.out]; omega), take_snoc HU.out, List.flatMap_append, HP.out]
                    simp
                  have HS3 := hide hSL3.out
                  have HT3 := hide hTN3.out
                  clear hSL3 hTN3 hl3
                  go_wp2_with fail
                  go_roundw
                  case rel => exact ⟨i + 1, _, _, _, _, _, _, NX3, rfl, rfl, by go_num, by omega, HRES, HT3, HS3⟩
                  case measure => simp [intOf]; omega
          · have hii : ¬ (i : Int) < ll := by omega
            have HNX : Hid (NX = (levN (supsOf CL) fr (m + 1)).1 ∧ SE ++ NX = (levN (supsOf CL) fr (m + 1)).2 ++ (levN (supsOf CL) fr (m + 1)).1) := by
              have h1 := hl2.out.2.2
              rw [List.take_of_length_le (by rw [← hlen.out.2]; omega)] at h1
              have h2 : NX = (levN (supsOf CL) fr (m + 1)).1 := by rw [h1, HSE.out, HLV.out]; rfl
              exact ⟨h2, by rw [← h2, HSE.out]; rfl⟩
            have HRES : Hid (∃ (m' : Nat) (sa la : Option Addr) (sc lc sl ll : Nat), Value.slice sb sl2 sc2 = .slice sa sl sc ∧ Value.slice na nl nc = .slice la ll lc ∧ Value.int .i64 ((m : Int) + 1 + 1) = .int .i64 ((m' : Int) + 1) ∧ m' ≤ 1048577 ∧ Hid (sl = ((levN (supsOf CL) fr m').2 ++ (levN (supsOf CL) fr m').1).length ∧ ll = (levN (supsOf CL) fr m').1.length) ∧ Hid (tg ∉ (levN (supsOf CL) fr m').2 ++ (levN (supsOf CL) fr m').1) ∧ Hid (SL V0 wr (.slice sa sl sc) (.slice la ll lc) (.slice none 0 0) ((levN (supsOf CL) fr m').2 ++ (levN (supsOf CL) fr m').1) (levN (supsOf CL) fr m').1 [])) := by
              refine ⟨m + 1, sb, na, sc2, nc, sl2, nl, rfl, rfl, by congr 1, HM1.out, ?_, ?_, ?_⟩
              · rw [← HNX.out.2, ← HNX.out.1]
                exact ⟨hl2.out.1, hl2.out.2.1⟩
              · rw [← HNX.out.2]
                exact hTN2
              · rw [← HNX.out.2, ← HNX.out.1]
                exact hSL2.out.turn
            clear hSL2 hTN2 hl2 HNX
            go_wp2_with fail
            go_roundw
            case rel => exact HRES.out
            case measure => simp [intOf]; omega

end Go.Proofs.Ythnmjebbeneloaa

namespace Go.Proofs.Ythnmjebbeneloaa
open Go.RowKit Go.Joins Go.MapKept Go.ChangeMaps

/-- What a map has at a key. -/
def getK (x : ByteArray) : List (ByteArray × Value) → Option Value
  | [] => none
  | p :: r => if p.1 = x then some p.2 else getK x r

/-- A map in block M whose keys are texts. -/
def MS (w : World) (M : Nat) (kv : List (ByteArray × Value)) : Prop :=
  ∃ es clock, w.heap[M]? = some (.map es clock) ∧ es.toList.map (fun e => (e.key, e.val)) = kv.map (fun p => (Value.string p.1, p.2))

theorem MS.lt {w : World} {M : Nat} {kv : List (ByteArray × Value)} (h : MS w M kv) : M < w.heap.size := by
  obtain ⟨es, c, h1, -⟩ := h
  exact (Array.getElem?_eq_some_iff.1 h1).1

theorem MS.kept {w w' : World} {M : Nat} {kv : List (ByteArray × Value)} {S : Nat → Prop} (h : MS w M kv) (k : Kept S w w') (hS : S M) : MS w' M kv := by
  have hl := h.lt
  obtain ⟨es, c, h1, h2⟩ := h
  exact ⟨es, c, (k.block M hl hS).trans h1, h2⟩

theorem MS.start (w : World) : MS (w.alloc (.map #[] 0)) w.heap.size [] := ⟨#[], 0, (MapKept.heap_alloc w _).1, rfl⟩

theorem ba_beq {a b : ByteArray} : (a == b) = true ↔ a = b := by
  cases a with
  | mk x =>
    cases b with
    | mk y =>
      constructor
      · intro h
        have h2 : (x == y) = true := h
        rw [eq_of_beq h2]
      · intro h
        cases h
        show (x == x) = true
        exact beq_self_eq_true x

theorem find_now (x : ByteArray) : ∀ (es : List MapEntry) (kv : List (ByteArray × Value)) (i : Nat), es.map (fun e => (e.key, e.val)) = kv.map (fun p => (Value.string p.1, p.2)) → ∃ r, Instr.findNow .string (.string x) es i = some r ∧ r.map Prod.snd = getK x kv
  | [], kv, i, h => by
    have e : kv = [] := by
      cases kv with
      | nil => rfl
      | cons _ _ => simp at h
    subst e
    exact ⟨none, rfl, rfl⟩
  | e :: es, kv, i, h => by
    cases kv with
    | nil => simp at h
    | cons p kv =>
      simp only [List.map_cons, List.cons.injEq, Prod.mk.injEq] at h
      obtain ⟨⟨h1, h2⟩, h3⟩ := h
      obtain ⟨r, g1, g2⟩ := find_now x es kv (i + 1) h3
      by_cases hx : p.1 = x
      · refine ⟨some (i, e.val), ?_, ?_⟩
        · have hb : (x == p.1) = true := ba_beq.2 hx.symm
          simp only [Instr.findNow, h1, Instr.sameNow, hb]
        · simp only [getK, if_pos hx, Option.map_some, h2]
      · refine ⟨r, ?_, ?_⟩
        · have hb : (x == p.1) = false := by
            cases hh : (x == p.1) with
            | false => rfl
            | true => exact absurd (ba_beq.1 hh).symm hx
          simp only [Instr.findNow, h1, Instr.sameNow, hb]
          exact g1
        · simp only [getK, if_neg hx]
          exact g2

theorem find_key {w : World} (x : ByteArray) (es : List MapEntry) (kv : List (ByteArray × Value)) (h : es.map (fun e => (e.key, e.val)) = kv.map (fun p => (Value.string p.1, p.2))) : ∃ r, (Instr.findKey 9 (.string x) es).run Try.prog w = .ok r w ∧ r.map Prod.snd = getK x kv := by
  obtain ⟨r, g1, g2⟩ := find_now x es kv 0 h
  refine ⟨r, ?_, g2⟩
  unfold Instr.findKey
  simp [run_underlying Try.underlying9, g1]

theorem check_str {w : World} (x : ByteArray) (em : Bool) (n : Nat) : (Instr.checkKey em (n + 1) 9 (.string x)).run Try.prog w = .ok () w := by
  simp [go_sem, Instr.checkKey]

theorem check_str' {w : World} (x : ByteArray) (em : Bool) : (Instr.checkKey em 10000 9 (.string x)).run Try.prog w = .ok () w := check_str x em 9999

theorem zero30 (w : World) : (zeroValue 30).run Try.prog w = .ok (.slice none 0 0) w := by kernel_rfl

theorem MS.lookL {w : World} {M : Nat} {kv : List (ByteArray × Value)} (h : MS w M kv) (x : ByteArray) {v : Value} (hv : getK x kv = some v) (ok : Bool) : (Instr.lookup 59 (.map (some M)) (.string x) ok).run Try.prog w = .ok (if ok then .tuple #[v, .bool true] else v) w := by
  obtain ⟨es, c, h1, h2⟩ := h
  obtain ⟨r, g1, g2⟩ := find_key (w := w) x es.toList kv h2
  rw [hv] at g2
  cases r with
  | none => cases g2
  | some r =>
    have e : r.2 = v := Option.some.inj g2
    unfold Instr.lookup
    cases ok <;> simp [run_underlying Try.underlying59, MapKept.run_getObj_map h1, check_str', g1, e]

theorem MS.missL {w : World} {M : Nat} {kv : List (ByteArray × Value)} (h : MS w M kv) (x : ByteArray) (hv : getK x kv = none) (ok : Bool) : (Instr.lookup 59 (.map (some M)) (.string x) ok).run Try.prog w = .ok (if ok then .tuple #[.slice none 0 0, .bool false] else .slice none 0 0) w := by
  obtain ⟨es, c, h1, h2⟩ := h
  obtain ⟨r, g1, g2⟩ := find_key (w := w) x es.toList kv h2
  rw [hv] at g2
  cases r with
  | some r => cases g2
  | none =>
    unfold Instr.lookup
    cases ok <;> simp [run_underlying Try.underlying59, MapKept.run_getObj_map h1, check_str', g1]

theorem MS.putL {w : World} {M : Nat} {kv : List (ByteArray × Value)} (h : MS w M kv) (x : ByteArray) (hv : getK x kv = none) (v : Value) : ∃ w', (Instr.mapUpdate 59 (.map (some M)) (.string x) v).run Try.prog w = .ok () w' ∧ MS w' M (kv ++ [(x, v)]) ∧ w.grownBy w' (some M) := by
  obtain ⟨es, c, h1, h2⟩ := h
  obtain ⟨r, g1, g2⟩ := find_key (w := w) x es.toList kv h2
  rw [hv] at g2
  cases r with
  | some r => cases g2
  | none =>
    refine ⟨ChangeMaps.setBlock w M (.map (es.push { key := .string x, val := v, born := c }) (c + 1)), ?_, ?_, ?_⟩
    · unfold Instr.mapUpdate
      simp [run_underlying Try.underlying59, MapKept.run_getObj_map h1, check_str', g1, MapKept.run_setObj_map _ h1, Result.andThen, ChangeMaps.setBlock]
    · refine ⟨_, _, heap_setBlock_same h1 _, ?_⟩
      simp [h2]
    · exact ⟨rfl, rfl, rfl, by simp [ChangeMaps.setBlock], fun i _ hi => heap_setBlock_other h1 _ (fun e => hi (by rw [e]))⟩

theorem zero62 (w : World) : (zeroValue 62).run Try.prog w = .ok (.agg #[.string ⟨#[]⟩]) w := by kernel_rfl

theorem MS.lookW {w : World} {M : Nat} {kv : List (ByteArray × Value)} (h : MS w M kv) (x : ByteArray) {v : Value} (hv : getK x kv = some v) (ok : Bool) : (Instr.lookup 63 (.map (some M)) (.string x) ok).run Try.prog w = .ok (if ok then .tuple #[v, .bool true] else v) w := by
  obtain ⟨es, c, h1, h2⟩ := h
  obtain ⟨r, g1, g2⟩ := find_key (w := w) x es.toList kv h2
  rw [hv] at g2
  cases r with
  | none => cases g2
  | some r =>
    have e : r.2 = v := Option.some.inj g2
    unfold Instr.lookup
    cases ok <;> simp [run_underlying Try.underlying63, MapKept.run_getObj_map h1, check_str', g1, e]

theorem MS.missW {w : World} {M : Nat} {kv : List (ByteArray × Value)} (h : MS w M kv) (x : ByteArray) (hv : getK x kv = none) (ok : Bool) : (Instr.lookup 63 (.map (some M)) (.string x) ok).run Try.prog w = .ok (if ok then .tuple #[.agg #[.string ⟨#[]⟩], .bool false] else .agg #[.string ⟨#[]⟩]) w := by
  obtain ⟨es, c, h1, h2⟩ := h
  obtain ⟨r, g1, g2⟩ := find_key (w := w) x es.toList kv h2
  rw [hv] at g2
  cases r with
  | some r => cases g2
  | none =>
    unfold Instr.lookup
    cases ok <;> simp [run_underlying Try.underlying63, MapKept.run_getObj_map h1, check_str', g1]

theorem MS.putW {w : World} {M : Nat} {kv : List (ByteArray × Value)} (h : MS w M kv) (x : ByteArray) (hv : getK x kv = none) (v : Value) : ∃ w', (Instr.mapUpdate 63 (.map (some M)) (.string x) v).run Try.prog w = .ok () w' ∧ MS w' M (kv ++ [(x, v)]) ∧ w.grownBy w' (some M) := by
  obtain ⟨es, c, h1, h2⟩ := h
  obtain ⟨r, g1, g2⟩ := find_key (w := w) x es.toList kv h2
  rw [hv] at g2
  cases r with
  | some r => cases g2
  | none =>
    refine ⟨ChangeMaps.setBlock w M (.map (es.push { key := .string x, val := v, born := c }) (c + 1)), ?_, ?_, ?_⟩
    · unfold Instr.mapUpdate
      simp [run_underlying Try.underlying63, MapKept.run_getObj_map h1, check_str', g1, MapKept.run_setObj_map _ h1, Result.andThen, ChangeMaps.setBlock]
    · refine ⟨_, _, heap_setBlock_same h1 _, ?_⟩
      simp [h2]
    · exact ⟨rfl, rfl, rfl, by simp [ChangeMaps.setBlock], fun i _ hi => heap_setBlock_other h1 _ (fun e => hi (by rw [e]))⟩

theorem run_makeMap59 (w : World) : (Instr.makeMap 59 none).run Try.prog w = .ok (.map (some w.heap.size)) (w.alloc (.map #[] 0)) := run_makeMap ..
theorem run_makeMap63 (w : World) : (Instr.makeMap 63 none).run Try.prog w = .ok (.map (some w.heap.size)) (w.alloc (.map #[] 0)) := run_makeMap ..

end Go.Proofs.Ythnmjebbeneloaa

namespace Go.Proofs.Ythnmjebbeneloaa
open Go.RowKit Go.Joins

theorem getK_snoc (x y : ByteArray) (v : Value) : ∀ kv : List (ByteArray × Value), getK x (kv ++ [(y, v)]) = (getK x kv).or (if y = x then some v else none)
  | [] => by simp [getK]
  | p :: kv => by
    simp only [List.cons_append, getK, getK_snoc x y v kv]
    split <;> simp

/-- What the map of superclasses tells. -/
def KV (W : World) (nb : Nat) (CL r : Fo) (kv : List (ByteArray × Value)) : Prop :=
  ∀ x, (getK x kv = none → supsOf r x = supsOf CL x) ∧ ∀ v, getK x kv = some v → ∃ a c, v = .slice a (supsOf CL x).length c ∧ SR W (fun c => c < nb) a c (supsOf CL x)

set_option maxHeartbeats 2000000 in
set_option maxRecDepth 100000 in
theorem i_supers (a : Option Addr) (n cap : Nat) (CL : Fo) (nb : Nat) (W : World) (hf : Fit E CL (rep (E 1) n)) (hs : CL.Sub W (fun c => c < nb) a n cap) (hn : nb ≤ W.heap.size) :
    Calls Try.prog 26 #[.slice a n cap] W fun e W' => ∃ M kv, e = .returned (.map (some M)) ∧ W.heap.size ≤ M ∧ MS W' M kv ∧ KV W nb CL .nil kv ∧ Below W.heap.size W W' := by
  have hmx : n ≤ 9223372036854775807 := by have h2 := hs.1; have h3 := hs.2.1; simp only [maxLen] at h3; omega
  have HR := hide (Rd.start hf hs)
  have HN := hide hn
  have hmm := run_makeMap59 W
  obtain ⟨V0, hV0⟩ : ∃ V, W.alloc (.map #[] 0) = V := ⟨_, rfl⟩
  have HMS : Hid (MS V0 W.heap.size []) := by unfold Hid; rw [← hV0]; exact MS.start W
  have HB0 : Hid (Below W.heap.size W V0) := by unfold Hid; rw [← hV0]; exact below_alloc1 _ _
  have HKV0 : Hid (KV W nb CL CL []) := fun x => ⟨fun _ => rfl, fun v hv => by cases hv⟩
  rw [hV0] at hmm
  clear hV0 hf hs hn
  go_enter Try.func26, Try.ntmps26
  go_wp2_with fail
  go_loopw [11] (fun s11 wr => ∃ (i : Nat) (r : Fo) (kv : List (ByteArray × Value)), s11 = .int .i64 i ∧ i ≤ n ∧ Hid (Rd E (E 1) n nb a i r W) ∧ Hid (MS wr W.heap.size kv) ∧ Hid (KV W nb CL r kv) ∧ Hid (Below W.heap.size W wr)) (fun s11 _ => n - (intOf s11).toNat)
  case atStart => exact ⟨0, CL, [], rfl, Nat.zero_le _, HR, HMS, HKV0, HB0⟩
  case round =>
    obtain ⟨i, r, kv, rfl, hin, hR, hM, hKV, hB⟩ := hrel
    by_cases hi : i < n
    · obtain ⟨y, rr, b, o, rfl, hx, rfl, hb, hc, hxs, hR1⟩ := hR.out.next hi (by decide)
      have HR1 := hide hR1
      have hii : (i : Int) < n := by omega
      have hnn := HN.out
      have hzb := hB.out.size
      replace hc := hc.below hB.out (by omega)
      replace hx : Fit E y [.t, .s 0, .s 0] := hx
      obtain ⟨x0, F0, rfl, -, hx⟩ := fit_t hx
      obtain ⟨p1, m1, e1, S1, F1, rfl, hS1, hx⟩ := fit_s hx
      obtain ⟨p2, m2, e2, S2, F2, rfl, -, hx⟩ := fit_s hx
      obtain rfl := fit_nil hx
      have y0 : wr.cell? ⟨b, o + i * 3, none⟩ = some (.string x0) := hc 0 _ rfl
      have y1 : wr.cell? ⟨b, o + i * 3 + 1, none⟩ = some (.slice p1 m1 e1) := hc 1 _ rfl
      have y2 : wr.cell? ⟨b, o + i * 3 + 2, none⟩ = some (.slice p2 m2 e2) := hc 2 _ rfl
      obtain ⟨hsr, hln⟩ := sr_of hS1 hxs.1
      obtain ⟨V1, hV1⟩ : ∃ V, wr.alloc (.cells #[.string x0, .slice p1 m1 e1, .slice p2 m2 e2] 98) = V := ⟨_, rfl⟩
      have k1 : Kept (fun _ => True) wr V1 := by rw [← hV1]; exact Kept.alloc _ _ _
      have q1 : Bx V1 wr.heap.size [.string x0, .slice p1 m1 e1, .slice p2 m2 e2] := by rw [← hV1]; exact Bx.new _ _ _
      have d0 := q1.cel 0 _ rfl
      have d1 := q1.cel 1 _ rfl
      have hM1 := hM.out.kept k1 trivial
      have HB1 : Hid (Below W.heap.size W V1) := Below.kept hB.out k1 (fun _ _ => trivial) (Nat.le_refl _)
      have HV1 := hide hV1
      have hkv : ∀ x, supsOf (Fo.app (.v (.string x0) (.s p1 m1 e1 S1 (.s p2 m2 e2 S2 .nil))) rr) x = if x0 = x then strs S1 else supsOf rr x := fun x => rfl
      cases hg : getK x0 kv with
      | some v =>
        have hlk := hM1.lookL x0 hg true
        have HK2 : Hid (KV W nb CL rr kv) := fun x => ⟨fun hx => by
          have h := (hKV.out x).1 hx
          rw [hkv x, if_neg (fun e => by rw [e, hx] at hg; cases hg)] at h
          exact h, (hKV.out x).2⟩
        have HM1 := hide hM1
        clear hV1 k1 q1 hM1 hsr hln hc hxs hx hR hR1 hKV hB hM hnn hzb hS1 hkv
        go_upto_region 5 with fail
        rw [HV1.out]
        clear HV1
        go_wp2_with fail
        go_roundw
        case rel => exact ⟨i + 1, rr, kv, by go_num, by omega, HR1, HM1, HK2, HB1⟩
        case measure => simp [intOf]; omega
      | none =>
        have hlk := hM1.missL x0 hg true
        obtain ⟨w4, hpt, hm4, hg4⟩ := hM1.putL x0 hg (.slice p1 m1 e1)
        have HM4 := hide hm4
        have HB4 : Hid (Below W.heap.size W w4) := Below.kept HB1.out (Kept.grown (S := fun c => c < W.heap.size) hg4 (fun g e h => by have := Option.some.inj e; omega)) (fun c hc => hc) (Nat.le_refl _)
        have HK2 : Hid (KV W nb CL rr (kv ++ [(x0, .slice p1 m1 e1)])) := fun x => by
          have h := hKV.out x
          rw [hkv x] at h
          rw [getK_snoc]
          by_cases hxx : x0 = x
          · subst hxx
            rw [hg, if_pos rfl]
            refine ⟨fun h => (by cases h), fun v hv => ?_⟩
            have ev : .slice p1 m1 e1 = v := Option.some.inj hv
            have es := h.1 hg
            rw [if_pos rfl] at es
            exact ⟨p1, e1, by rw [← ev, ← es, hln], by rw [← es]; exact hsr⟩
          · rw [if_neg hxx] at h ⊢
            rw [Option.or_none]
            exact h
        clear hV1 k1 q1 hM1 hsr hln hc hxs hx hR hR1 hKV hB hM hnn hzb hS1 hkv hm4 hg4
        go_upto_region 5 with fail
        rw [HV1.out]
        clear HV1
        go_wp2_with fail
        go_roundw
        case rel => exact ⟨i + 1, rr, _, by go_num, by omega, HR1, HM4, HK2, HB4⟩
        case measure => simp [intOf]; omega
    · obtain ⟨rfl, rfl⟩ := hR.out.done hi
      have HM2 := hide hM.out
      have HK2 := hide hKV.out
      have HB2 := hide hB.out
      clear hR hM hKV hB
      go_wp2_with fail
      go_ret
      exact ⟨_, _, rfl, Nat.le_refl _, HM2.out, HK2.out, HB2.out⟩

end Go.Proofs.Ythnmjebbeneloaa
