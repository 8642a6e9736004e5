import Derived.Test.YtcnbnhoeobdbnaaCm
import Derived.Test.YtcnbnhoeobdbnaaUnA
namespace Go.Proofs.Ytcnbnhoeobdbnaa
open Go.RowKit Go.Joins

/-- The cells of preds. -/
def pfl (L : List Pd) : List Value := L.flatMap (fun x => [.string x.nm, .int .i64 x.sd])

theorem pfl_len : ∀ L : List Pd, (pfl L).length = L.length * 2
  | [] => rfl
  | x :: r => by
    have := pfl_len r
    simp only [pfl, List.flatMap_cons, List.length_append, List.length_cons, List.length_nil] at this ⊢
    omega

theorem pfl_app (L M : List Pd) : pfl (L ++ M) = pfl L ++ pfl M := by simp [pfl]

theorem pfl_get : ∀ (L : List Pd) (i : Nat) (x : Pd), L[i]? = some x → (pfl L)[i * 2]? = some (.string x.nm) ∧ (pfl L)[i * 2 + 1]? = some (.int .i64 x.sd)
  | [], i, x, h => by simp at h
  | y :: r, 0, x, h => by
    simp only [List.getElem?_cons_zero, Option.some.injEq] at h
    subst h
    exact ⟨rfl, rfl⟩
  | y :: r, i + 1, x, h => by
    have := pfl_get r i x (by simpa using h)
    have e : (i + 1) * 2 = i * 2 + 2 := by omega
    rw [e]
    exact this

/-- A row of preds of its own. -/
def PdR (B : Nat) (w : World) (v : Value) (L : List Pd) : Prop := w.ownsRow B 115 2 v L.length (pfl L)

theorem PdR.nil (B : Nat) (w : World) : PdR B w (.slice none 0 0) [] := ⟨rfl, .inl ⟨rfl, rfl⟩⟩

theorem PdR.kept {B : Nat} {w w' : World} {v : Value} {L : List Pd} (h : PdR B w v L) {S : Nat → Prop} (k : Kept S w w') (hS : ∀ c, v.ownBlock = some c → S c) : PdR B w' v L := by
  obtain ⟨h1, h2⟩ := h
  refine ⟨h1, ?_⟩
  rcases h2 with h2 | ⟨b, cap, cur, rfl, hb, hg, rest⟩
  · exact .inl h2
  · refine .inr ⟨b, cap, cur, rfl, hb, ?_, rest⟩
    have hlt : b < w.heap.size := (Array.getElem?_eq_some_iff.1 hg).1
    rw [k.block b hlt (hS b rfl)]
    exact hg

theorem PdR.lt {B : Nat} {w : World} {v : Value} {L : List Pd} (h : PdR B w v L) : ∀ k, v.ownBlock = some k → B ≤ k ∧ k < w.heap.size := World.ownsRow.lt h

theorem PdR.psl {B : Nat} {w : World} {v : Value} {L : List Pd} (h : PdR B w v L) (hok : ∀ x ∈ L, x.Ok) : ∃ a cap, v = .slice a L.length cap ∧ PSl w w.heap.size a cap L := by
  rcases h.2 with ⟨rfl, h3⟩ | ⟨b, cap, cur, rfl, hb, hg, h4, h5, -⟩
  · exact ⟨none, 0, by rw [h3], by omega, Nat.zero_le _, hok, fun hl => by omega⟩
  · have hlt := (Array.getElem?_eq_some_iff.1 hg).1
    refine ⟨_, cap, rfl, h4, h5, hok, fun _ => ⟨b, 0, rfl, hlt, fun i x hx => ?_⟩⟩
    obtain ⟨g1, g2⟩ := pfl_get L i x hx
    have c1 := World.ownsRow.cells h (g := b) rfl _ _ g1
    have c2 := World.ownsRow.cells h (g := b) rfl _ _ g2
    rw [addr_add] at c1 c2
    exact ⟨c1, c2⟩

/-- A slice holds numbers. -/
structure IS (W : World) (n0 : Nat) (a : Option Addr) (cap : Nat) (L : List Int) : Prop where
  len : L.length ≤ cap
  cap : cap ≤ maxLen
  ok : ∀ x ∈ L, (Lit.int .i64 x).wf = true
  row : 0 < L.length → ∃ b o, a = some ⟨b, o, none⟩ ∧ b < n0 ∧ ∀ i x, L[i]? = some x → W.cell? ⟨b, o + i, none⟩ = some (.int .i64 x)

theorem IS.below {A B : World} {n n0 : Nat} {L : List Int} {a : Option Addr} {cap : Nat} (h : IS A n0 a cap L) (k : Below n A B) (hb : n0 ≤ n) : IS B n0 a cap L :=
  ⟨h.len, h.cap, h.ok, fun hl => by obtain ⟨b, o, e, s, x⟩ := h.row hl; exact ⟨b, o, e, s, fun i y hy => (k.cell (p := ⟨b, _, none⟩) (by show b < n; omega)).trans (x i y hy)⟩⟩

theorem IS.kept {A B : World} {n0 : Nat} {L : List Int} {a : Option Addr} {cap : Nat} {S : Nat → Prop} (h : IS A n0 a cap L) (k : Kept S A B) (hb : ∀ c, c < n0 → c < A.heap.size ∧ S c) : IS B n0 a cap L :=
  ⟨h.len, h.cap, h.ok, fun hl => by obtain ⟨b, o, e, s, x⟩ := h.row hl; exact ⟨b, o, e, s, fun i y hy => (k.cell (p := ⟨b, _, none⟩) (hb b s).1 (hb b s).2).trans (x i y hy)⟩⟩

theorem PSl.kept {A B : World} {n0 : Nat} {L : List Pd} {a : Option Addr} {cap : Nat} {S : Nat → Prop} (h : PSl A n0 a cap L) (k : Kept S A B) (hb : ∀ c, c < n0 → c < A.heap.size ∧ S c) : PSl B n0 a cap L :=
  ⟨h.len, h.cap, h.ok, fun hl => by
    obtain ⟨b, o, e, s, x⟩ := h.row hl
    exact ⟨b, o, e, s, fun i y hy => ⟨(k.cell (p := ⟨b, _, none⟩) (hb b s).1 (hb b s).2).trans (x i y hy).1, (k.cell (p := ⟨b, _, none⟩) (hb b s).1 (hb b s).2).trans (x i y hy).2⟩⟩⟩

theorem IR.is {B : Nat} {w : World} {a : Option Addr} {cap : Nat} {L : List Int} (h : IR B w (.slice a L.length cap) L) (hok : ∀ x ∈ L, (Lit.int .i64 x).wf = true) : IS w w.heap.size a cap L := by
  rcases h.2 with ⟨e, h3⟩ | ⟨b, c, cur, e, hb, hg, h4, h5, -⟩
  · simp only [Value.slice.injEq] at e
    obtain ⟨rfl, h, rfl⟩ := e
    exact ⟨by omega, Nat.zero_le _, hok, fun hl => by omega⟩
  · simp only [Value.slice.injEq] at e
    obtain ⟨rfl, -, rfl⟩ := e
    have hlt := (Array.getElem?_eq_some_iff.1 hg).1
    refine ⟨h4, h5, hok, fun _ => ⟨b, 0, rfl, hlt, fun i x hx => ?_⟩⟩
    have c1 := World.ownsRow.cells h (g := b) rfl i (iv x) (by simp [hx])
    rw [addr_add] at c1
    exact c1

set_option maxHeartbeats 1000000 in
set_option maxRecDepth 100000 in
/-- The model's search for a number. -/
theorem hasId_any (a : Option Addr) (cap : Nat) (L : List Int) (x : Int) (w : World) (hs : IS w w.heap.size a cap L) :
    Calls Try.prog 64 #[.slice a L.length cap, .int .i64 x] w fun e w' => e = .returned (.bool (decide (x ∈ L))) ∧ Below w.heap.size w w' := by
  have hmx : L.length ≤ 9223372036854775807 := by have h2 := hs.len; have h3 := hs.cap; simp only [maxLen] at h3; omega
  obtain ⟨n, hn⟩ : ∃ n, n = L.length := ⟨_, rfl⟩
  rw [← hn] at hmx ⊢
  obtain ⟨q, hq⟩ : ∃ q, q = decide (x ∈ L) := ⟨_, rfl⟩
  rw [← hq]
  have HQ := hide hq
  clear hq
  have HS := hide hs
  have HN := hide hn
  clear hs hn
  go_enter Try.func64, Try.ntmps64
  go_wp2_with fail
  go_loopw [5] (fun s wr => ∃ i : Nat, s = .int .i64 i ∧ i ≤ n ∧ Hid (Kept (fun _ => True) w wr) ∧ Hid (∀ j, j < i → L[j]? ≠ some x)) (fun s _ => n - (intOf s).toNat)
  case atStart => exact ⟨0, rfl, Nat.zero_le _, Kept.refl _ _, fun j hj => by omega⟩
  case round =>
    obtain ⟨i, rfl, hi, HK, HJ⟩ := hrel
    by_cases hlt : i < n
    · have hlt' : (i : Int) < n := by omega
      obtain ⟨b, o, rfl, hb, hr⟩ := HS.out.row (by rw [← HN.out]; omega)
      obtain ⟨y, hy⟩ : ∃ y, L[i]? = some y := ⟨L[i]'(by rw [← HN.out]; exact hlt), by simp [← HN.out, hlt]⟩
      have c1 := (HK.out.cell (p := ⟨b, o + i, none⟩) hb trivial).trans (hr i y hy)
      clear hr
      by_cases e : y = x
      · subst e
        have HI : Hid (q = true) := HQ.out.trans (decide_eq_true (List.mem_of_getElem? hy))
        clear hy
        go_wp2_with fail
        go_ret
        exact ⟨by rw [HI.out]; rfl, HK.out.below (fun _ _ => trivial) (Nat.le_refl _)⟩
      · have HJ2 : Hid (∀ j, j < i + 1 → L[j]? ≠ some x) := fun j hj => by
          by_cases e2 : j = i
          · subst e2; rw [hy]; simpa using e
          · exact HJ.out j (by omega)
        clear hy
        have hyb : (y == x) = false := by simpa using e
        go_wp2_with fail
        go_roundw
        case rel => exact ⟨i + 1, by go_num, by omega, HK, HJ2⟩
        case measure => simp [intOf]; omega
    · have hlt' : ¬ (i : Int) < n := by omega
      obtain rfl : i = n := by omega
      have HI : Hid (q = false) := HQ.out.trans (decide_eq_false (fun h => by
        obtain ⟨j, hj⟩ := List.getElem?_of_mem h
        have := (List.getElem?_eq_some_iff.1 hj).1
        exact HJ.out j (by have := HN.out; omega) hj))
      go_wp2_with fail
      go_ret
      exact ⟨by rw [HI.out]; rfl, HK.out.below (fun _ _ => trivial) (Nat.le_refl _)⟩

theorem pd_ne {x y : Pd} (h : x ≠ y) : ((x.nm.toList == y.nm.toList) = true ∧ (x.sd == y.sd) = false) ∨ (x.nm.toList == y.nm.toList) = false := by
  cases hb : (x.nm.toList == y.nm.toList)
  · exact .inr rfl
  · refine .inl ⟨rfl, ?_⟩
    cases h2 : (x.sd == y.sd)
    · rfl
    · have e2 : x.sd = y.sd := by simpa using h2
      have e1 : x.nm = y.nm := Classical.byContradiction fun hne => by rw [U.list_ne hne] at hb; cases hb
      obtain ⟨a, b⟩ := x
      obtain ⟨c, d⟩ := y
      simp only at e1 e2
      subst e1 e2
      exact absurd rfl h

set_option maxHeartbeats 1000000 in
set_option maxRecDepth 100000 in
/-- The model's search for a pred. -/
theorem hasPred_any (a : Option Addr) (cap : Nat) (L : List Pd) (x : Pd) (w : World) (hs : PSl w w.heap.size a cap L) (q : Bool) (hq : q = true ↔ x ∈ L) :
    Calls Try.prog 66 #[.slice a L.length cap, .agg #[.string x.nm, .int .i64 x.sd]] w fun e w' => e = .returned (.bool q) ∧ Below w.heap.size w w' := by
  have hmx : L.length ≤ 9223372036854775807 := by have h2 := hs.len; have h3 := hs.cap; simp only [maxLen] at h3; omega
  obtain ⟨n, hn⟩ : ∃ n, n = L.length := ⟨_, rfl⟩
  rw [← hn] at hmx ⊢
  have HQ := hide hq
  have b0 := below_alloc1 w (.cells #[.string x.nm, .int .i64 x.sd] 115)
  have HS := hide ((hs.below b0 (Nat.le_refl _)).mono (by simp : w.heap.size ≤ (w.alloc (.cells #[.string x.nm, .int .i64 x.sd] 115)).heap.size))
  have HB := hide b0
  have HN := hide hn
  have HX : Hid ((w.alloc (.cells #[.string x.nm, .int .i64 x.sd] 115)).cell? ⟨w.heap.size, 0, none⟩ = some (.string x.nm) ∧ (w.alloc (.cells #[.string x.nm, .int .i64 x.sd] 115)).cell? ⟨w.heap.size, 1, none⟩ = some (.int .i64 x.sd) ∧ w.heap.size < (w.alloc (.cells #[.string x.nm, .int .i64 x.sd] 115)).heap.size) := ⟨by simp, by simp, by simp⟩
  clear hs hn hq b0
  go_enter Try.func66, Try.ntmps66
  go_wp2_with fail
  generalize w.alloc (.cells #[.string x.nm, .int .i64 x.sd] 115) = w0 at *
  go_loopw [5] (fun s wr => ∃ i : Nat, s = .int .i64 i ∧ i ≤ n ∧ Hid (Kept (fun _ => True) w0 wr) ∧ Hid (∀ j, j < i → L[j]? ≠ some x)) (fun s _ => n - (intOf s).toNat)
  case atStart => exact ⟨0, rfl, Nat.zero_le _, Kept.refl _ _, fun j hj => by omega⟩
  case round =>
    obtain ⟨i, rfl, hi, HK, HJ⟩ := hrel
    have x0 := (HK.out.cell (p := ⟨w.heap.size, 0, none⟩) HX.out.2.2 trivial).trans HX.out.1
    have x1 := (HK.out.cell (p := ⟨w.heap.size, 1, none⟩) HX.out.2.2 trivial).trans HX.out.2.1
    by_cases hlt : i < n
    · have hlt' : (i : Int) < n := by omega
      obtain ⟨b, o, rfl, hb, hr⟩ := HS.out.row (by rw [← HN.out]; omega)
      obtain ⟨y, hy⟩ : ∃ y, L[i]? = some y := ⟨L[i]'(by rw [← HN.out]; exact hlt), by simp [← HN.out, hlt]⟩
      have c1 := (HK.out.cell (p := ⟨b, o + i * 2, none⟩) hb trivial).trans (hr i y hy).1
      have c2 := (HK.out.cell (p := ⟨b, o + i * 2 + 1, none⟩) hb trivial).trans (hr i y hy).2
      clear hr
      by_cases e : y = x
      · subst e
        have HI : Hid (q = true) := HQ.out.2 (List.mem_of_getElem? hy)
        clear hy
        go_wp2_with fail
        go_region
        all_goals
          go_wp2_with fail
          go_ret
          exact ⟨by rw [HI.out]; rfl, (HB.out.trans ((HK.out.trans (Kept.drew _ _)).below (n := w.heap.size) (fun _ _ => trivial) (by have := HX.out.2.2; omega)))⟩
      · have HJ2 : Hid (∀ j, j < i + 1 → L[j]? ≠ some x) := fun j hj => by
          by_cases e2 : j = i
          · subst e2; rw [hy]; simpa using e
          · exact HJ.out j (by omega)
        clear hy
        rcases pd_ne e with ⟨hy1, hy2⟩ | hy1
        all_goals
          clear e
          go_wp2_with fail
          go_region
          all_goals
            go_wp2_with fail
            go_roundw
            case rel => exact ⟨i + 1, by go_num, by omega, HK.out.trans (Kept.drew _ _), HJ2⟩
            case measure => simp [intOf]; omega
    · have hlt' : ¬ (i : Int) < n := by omega
      obtain rfl : i = n := by omega
      have HI : Hid (q = false) := by
        cases hb : q
        · rfl
        · obtain ⟨j, hj⟩ := List.getElem?_of_mem (HQ.out.1 hb)
          have := (List.getElem?_eq_some_iff.1 hj).1
          exact absurd hj (HJ.out j (by have := HN.out; omega))
      go_wp2_with fail
      go_ret
      exact ⟨by rw [HI.out]; rfl, (HB.out.trans (HK.out.below (n := w.heap.size) (fun _ _ => trivial) (by have := HX.out.2.2; omega)))⟩

end Go.Proofs.Ytcnbnhoeobdbnaa
