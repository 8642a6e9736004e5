import Derived.Test.YtmccdomgechkkaaKa
import Derived.Test.YtmccdomgechkkaaUt
import Derived.Deep.RegionHeld3
import Derived.Deep.DeepCutAuto
namespace Go.Proofs.Ytmccdomgechkkaa
open Go.RowKit Go.Joins

/-- The texts of a row. -/
def strs : Fo → List ByteArray
  | .v (.string x) r => x :: strs r
  | _ => []

/-- A row of texts in memory. -/
structure SR (V : World) (S : Nat → Prop) (a : Option Addr) (c : Nat) (L : List ByteArray) : Prop where
  le : L.length ≤ c
  mx : c ≤ maxLen
  at_ : L ≠ [] → ∃ b o, a = some ⟨b, o, none⟩ ∧ S b ∧ ∀ i x, L[i]? = some x → V.cell? ⟨b, o + i, none⟩ = some (.string x)

theorem SR.kept {A B : World} {S T : Nat → Prop} {a : Option Addr} {c : Nat} {L : List ByteArray} (h : SR A S a c L) (k : Kept T A B) (hS : ∀ b, S b → T b ∧ b < A.heap.size) : SR B S a c L :=
  ⟨h.le, h.mx, fun hl => by
    obtain ⟨b, o, e, s, hc⟩ := h.at_ hl
    exact ⟨b, o, e, s, fun i x hx => (k.cell (p := ⟨b, o + i, none⟩) (hS b s).2 (hS b s).1).trans (hc i x hx)⟩⟩

theorem SR.mono {A : World} {S T : Nat → Prop} {a : Option Addr} {c : Nat} {L : List ByteArray} (h : SR A S a c L) (hS : ∀ b, S b → T b) : SR A T a c L :=
  ⟨h.le, h.mx, fun hl => by
    obtain ⟨b, o, e, s, hc⟩ := h.at_ hl
    exact ⟨b, o, e, hS b s, hc⟩⟩

theorem SR.nil (A : World) (S : Nat → Prop) (a : Option Addr) (c : Nat) (h : c ≤ maxLen) : SR A S a c [] := ⟨Nat.zero_le _, h, fun hl => absurd rfl hl⟩

theorem strs_fit : ∀ (n : Nat) (F : Fo), Fit E F (rep (E 0) n) → F.vals = (strs F).map Value.string ∧ (strs F).length = n
  | 0, F, h => by
    have e := fit_nil h
    subst e
    exact ⟨rfl, rfl⟩
  | n + 1, F, h => by
    replace h : Fit E F ([.t] ++ rep (E 0) n) := h
    obtain ⟨x, r, rfl, -, h⟩ := fit_t h
    obtain ⟨h1, h2⟩ := strs_fit n r h
    exact ⟨by simp only [Fo.vals, strs, List.map_cons, h1], by simp only [strs, List.length_cons, h2]⟩

theorem sr_of {W : World} {S : Nat → Prop} {a : Option Addr} {n c : Nat} {F : Fo} (hf : Fit E F (rep (E 0) n)) (h : Fo.Sub W S a n c F) : SR W S a c (strs F) ∧ (strs F).length = n := by
  obtain ⟨h1, h2⟩ := strs_fit n F hf
  refine ⟨⟨by rw [h2]; exact h.1, h.2.1, fun hl => ?_⟩, h2⟩
  have hlen : 0 < F.len := by
    rw [← Fo.vals_length, h1, List.length_map]
    exact List.length_pos_iff.2 hl
  obtain ⟨b, o, e, s, hc, -⟩ := h.2.2 hlen
  refine ⟨b, o, e, s, fun i x hx => hc i _ ?_⟩
  rw [h1, List.getElem?_map, hx]
  rfl

set_option maxHeartbeats 1000000 in
set_option maxRecDepth 100000 in
theorem m_in (a : Option Addr) (c : Nat) (L : List ByteArray) (x : ByteArray) (W : World) (S : Nat → Prop) (hs : SR W S a c L) (q : Bool) (hq : q = true ↔ x ∈ L) :
    Calls Try.prog 9 #[.slice a L.length c, .string x] W fun e W' => e = .returned (.bool q) ∧ Below W.heap.size W W' := by
  obtain ⟨n, hn⟩ : ∃ n, n = L.length := ⟨_, rfl⟩
  rw [← hn]
  have hmx : n ≤ 9223372036854775807 := by have h2 := hs.le; have h3 := hs.mx; simp only [maxLen] at h3; omega
  have HS := hide hs
  have HQ := hide hq
  clear hq
  have HN := hide hn
  clear hs hn
  go_enter Try.func9, Try.ntmps9
  go_wp2_with fail
  go_loopw [5] (fun s5 wr => ∃ i : Nat, s5 = .int .i64 i ∧ wr = W ∧ i ≤ n ∧ Hid (x ∈ L ↔ x ∈ L.drop i)) (fun s5 _ => n - (intOf s5).toNat)
  case atStart => exact ⟨0, rfl, rfl, Nat.zero_le _, Iff.rfl⟩
  case round =>
    obtain ⟨i, rfl, rfl, hin, hfd⟩ := hrel
    by_cases hi : i < n
    · have hii : (i : Int) < n := by omega
      have hil : i < L.length := by rw [← HN.out]; exact hi
      obtain ⟨y, hy⟩ : ∃ y, L[i]? = some y := ⟨_, List.getElem?_eq_getElem hil⟩
      obtain ⟨b, o, rfl, -, hc⟩ := HS.out.at_ (List.length_pos_iff.1 (by omega))
      have y0 := hc i y hy
      have hd : L.drop i = y :: L.drop (i + 1) := by
        rw [List.drop_eq_getElem_cons hil]
        congr 1
        exact (List.getElem?_eq_some_iff.1 hy).2
      have hfe := hfd.out
      rw [hd, List.mem_cons] at hfe
      clear hc hd hy hil hfd
      by_cases h1 : y = x
      · have HT : Hid (q = true) := HQ.out.2 (hfe.2 (.inl h1.symm))
        subst h1
        clear hfe
        go_wp2_with fail
        go_ret
        exact ⟨by rw [HT.out]; rfl, Below.refl _ _⟩
      · have h1' := list_ne h1
        have HT : Hid (x ∈ L ↔ x ∈ L.drop (i + 1)) := ⟨fun h => (hfe.1 h).resolve_left (fun e => h1 e.symm), fun h => hfe.2 (.inr h)⟩
        clear hfe h1
        go_wp2_with fail
        go_roundw
        case rel => exact ⟨i + 1, by go_num, trivial, by omega, HT⟩
        case measure => simp [intOf]; omega
    · have HT : Hid (q = false) := by
        cases hqq : q with
        | false => rfl
        | true =>
          have h2 := hfd.out.1 (HQ.out.1 hqq)
          rw [List.drop_eq_nil_of_le (by rw [← HN.out]; omega)] at h2
          exact absurd h2 List.not_mem_nil
      clear hfd
      go_wp2_with fail
      go_ret
      exact ⟨by rw [HT.out]; rfl, Below.refl _ _⟩

/-- A name with so many signs more. -/
def pr (x : ByteArray) : Nat → ByteArray
  | 0 => x
  | k + 1 => pr x k ++ ⟨#[39]⟩

theorem pr_size (x : ByteArray) : ∀ k, (pr x k).size = x.size + k
  | 0 => rfl
  | k + 1 => by
    have h := pr_size x k
    have e : (pr x (k + 1)).size = (pr x k).size + 1 := by
      show (pr x k ++ ⟨#[39]⟩).size = _
      rw [ByteArray.size_append]
      rfl
    omega

/-- The first one that is none of those to avoid. -/
structure FrK (L : List ByteArray) (x : ByteArray) (k : Nat) : Prop where
  pos : 1 ≤ k
  all : ∀ j, 1 ≤ j → j < k → pr x j ∈ L
  not : ¬ pr x k ∈ L

theorem FrK.one {L : List ByteArray} {x : ByteArray} {k m : Nat} (h : FrK L x k) (g : FrK L x m) : k = m := by
  rcases Nat.lt_trichotomy k m with e | e | e
  · exact absurd (g.all k h.pos e) h.not
  · exact e
  · exact absurd (h.all m g.pos e) g.not

/-- How many of the texts are at least as long. -/
def lon (L : List ByteArray) (n : Nat) : Nat := (L.filter (fun y => decide (n ≤ y.size))).length

theorem lon_le (L : List ByteArray) (n : Nat) : lon L n ≤ L.length := List.length_filter_le _ _

theorem lon_mono : ∀ (L : List ByteArray) (n : Nat), lon L (n + 1) ≤ lon L n
  | [], _ => Nat.le_refl _
  | y :: L, n => by
    have h := lon_mono L n
    unfold lon at h ⊢
    rw [List.filter_cons, List.filter_cons]
    by_cases h1 : n + 1 ≤ y.size
    · have h2 : n ≤ y.size := by omega
      simp only [h1, h2, decide_true, if_true, List.length_cons]
      omega
    · by_cases h2 : n ≤ y.size
      · simp only [h1, h2, decide_true, decide_false, if_true, Bool.false_eq_true, if_false, List.length_cons]
        omega
      · simp only [h1, h2, decide_false, Bool.false_eq_true, if_false]
        exact h

theorem lon_lt : ∀ (L : List ByteArray) (y : ByteArray), y ∈ L → lon L (y.size + 1) < lon L y.size
  | z :: L, y, h => by
    rcases List.mem_cons.1 h with e | e
    · subst e
      have h0 := lon_mono L y.size
      unfold lon at h0 ⊢
      rw [List.filter_cons, List.filter_cons]
      have h1 : ¬ y.size + 1 ≤ y.size := by omega
      simp only [h1, Nat.le_refl, decide_true, decide_false, if_true, Bool.false_eq_true, if_false, List.length_cons]
      omega
    · have h0 := lon_lt L y e
      unfold lon at h0 ⊢
      rw [List.filter_cons, List.filter_cons]
      by_cases h1 : y.size + 1 ≤ z.size
      · have h2 : y.size ≤ z.size := by omega
        simp only [h1, h2, decide_true, if_true, List.length_cons]
        omega
      · by_cases h2 : y.size ≤ z.size
        · simp only [h1, h2, decide_true, decide_false, if_true, Bool.false_eq_true, if_false, List.length_cons]
          omega
        · simp only [h1, h2, decide_false, Bool.false_eq_true, if_false]
          exact h0

/-- How long a text is. -/
def szOf : Value → Nat
  | .string x => x.size
  | _ => 0

/-- What the search knows. -/
structure FrI (L : List ByteArray) (x : ByteArray) (k : Nat) : Prop where
  pos : 1 ≤ k
  all : ∀ j, 1 ≤ j → j < k → pr x j ∈ L
  low : k + lon L (x.size + k) ≤ L.length + 1

theorem FrI.start (L : List ByteArray) (x : ByteArray) : FrI L x 1 := ⟨Nat.le_refl _, fun j h1 h2 => by omega, by have := lon_le L (x.size + 1); omega⟩

theorem FrI.next {L : List ByteArray} {x : ByteArray} {k : Nat} (h : FrI L x k) (hm : pr x k ∈ L) : FrI L x (k + 1) ∧ lon L (x.size + (k + 1)) < lon L (x.size + k) := by
  have h1 := lon_lt L _ hm
  rw [pr_size] at h1
  have h2 : x.size + k + 1 = x.size + (k + 1) := by omega
  rw [h2] at h1
  refine ⟨⟨by omega, fun j a b => ?_, by have := h.low; omega⟩, h1⟩
  rcases Nat.lt_or_ge j k with e | e
  · exact h.all j a e
  · have e2 : j = k := by omega
    rw [e2]
    exact hm

set_option maxHeartbeats 2000000 in
set_option maxRecDepth 100000 in
/-- The model's search. -/
theorem m_fresh (a : Option Addr) (c : Nat) (L : List ByteArray) (x : ByteArray) (W : World) (hs : SR W (fun b => b < W.heap.size) a c L) (hx : x.size ≤ 1048576) (hL : L.length ≤ 1048576) :
    Calls Try.prog 5 #[.string x, .slice a L.length c] W fun e W' => ∃ k, FrK L x k ∧ e = .returned (.string (pr x k)) ∧ Below W.heap.size W W' := by
  have h0 : ¬ 9223372036854775807 < x.size + 1 := by omega
  have HS := hide hs
  have HL := hide hL
  have HX := hide hx
  obtain ⟨n, hn⟩ : ∃ n, n = L.length := ⟨_, rfl⟩
  rw [← hn]
  have HN := hide hn
  clear hs hn hL hx
  go_enter Try.func5, Try.ntmps5
  go_wp2_with fail
  go_loopw [5] (fun s5 wr => ∃ k : Nat, s5 = .string (pr x k) ∧ Hid (FrI L x k) ∧ Hid (Below W.heap.size W wr)) (fun s5 _ => lon L (szOf s5))
  case atStart => exact ⟨1, rfl, FrI.start L x, Below.refl _ _⟩
  case round =>
    obtain ⟨k, rfl, hk, hw⟩ := hrel
    have hsr : SR wr (fun b => b < W.heap.size) a c L := HS.out.kept (Kept.of_below (S := fun b => b < W.heap.size) hw.out (fun _ _ h => h)) (fun b h => ⟨h, h⟩)
    have hq : ∃ q : Bool, (q = true ↔ pr x k ∈ L) := by
      by_cases h : pr x k ∈ L
      · exact ⟨true, by simp [h]⟩
      · exact ⟨false, by simp [h]⟩
    obtain ⟨q, hq⟩ := hq
    have HC : Hid (Calls Try.prog 9 #[.slice a n c, .string (pr x k)] wr fun e W' => e = .returned (.bool q) ∧ Below wr.heap.size wr W') := by
      rw [HN.out]
      exact m_in a c L (pr x k) wr _ hsr q hq
    have hks : ¬ 9223372036854775807 < (pr x k).size + 1 := by
      rw [pr_size]
      have h1 := hk.out.low
      have h2 := HL.out
      have h3 := HX.out
      omega
    have HQ := hide hq
    clear hsr hq
    cases q with
    | true =>
      have hmem : pr x k ∈ L := HQ.out.1 rfl
      obtain ⟨h1, h2⟩ := hk.out.next hmem
      have H1 := hide h1
      have H2 := hide h2
      clear h1 h2 hmem HQ
      go_wp2_with (go_at_call 9; refine HC.out.mono ?_; rintro e W1 ⟨rfl, b1⟩)
      go_roundw
      case rel => exact ⟨k + 1, rfl, H1, hw.out.trans (b1.mono hw.out.size)⟩
      case measure =>
        have h3 := H2.out
        show lon L (pr x (k + 1)).size < lon L (pr x k).size
        rw [pr_size, pr_size]
        exact h3
    | false =>
      have HK : Hid (FrK L x k) := ⟨hk.out.pos, hk.out.all, fun h => by have := HQ.out.2 h; simp at this⟩
      clear HQ
      go_wp2_with (go_at_call 9; refine HC.out.mono ?_; rintro e W1 ⟨rfl, b1⟩)
      go_ret
      exact ⟨k, HK.out, rfl, hw.out.trans (b1.mono hw.out.size)⟩

end Go.Proofs.Ytmccdomgechkkaa
