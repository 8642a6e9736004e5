import Derived.Test.YtpcnmolncoaddaaDraws
import Derived.Test.YtpcnmolncoaddaaText
import Derived.Test.YtpcnmolncoaddaaSmall2
import Derived.Test.YtpcnmolncoaddaaMul2
import Derived.Test.YtpcnmolncoaddaaSAdd2
import Derived.Test.YtpcnmolncoaddaaRS
import Derived.Deep.RegionHeld3
import Derived.Deep.DeepCutAuto
import Derived.Test.YtpcnmolncoaddaaJA2
namespace Go.Proofs.Ytpcnmolncoaddaa
open Go.RowKit Go.Joins

theorem Ans.one {w w' : World} {e : Ending} {Z : Int} (h : Ans w w' e Z) :
    ∃ (code : Int) (m : Bool) (a : Option Addr) (n c : Nat) (f : Nat → Nat), e = .returned (.agg #[.int .i64 code, .bool m, .slice a n c]) ∧ Own w.heap.size w' (.slice a n c) n f ∧ ((code = 0 ∧ Z.natAbs < Lid ∧ Num w' m (.slice a n c) n f Z) ∨ (code = 2 ∧ Lid ≤ Z.natAbs)) := by
  by_cases hz : Z.natAbs < Lid
  · obtain ⟨m, v, n, f, rfl, ho, hN⟩ := h.1 hz
    obtain ⟨a, c, rfl, -⟩ := id ho
    exact ⟨0, m, a, n, c, f, rfl, ho, .inl ⟨rfl, hz, hN⟩⟩
  · obtain ⟨v, rfl, ho⟩ := h.2 (by omega)
    obtain ⟨a, c, rfl, -⟩ := id ho
    exact ⟨2, false, a, 0, c, _, rfl, ho, .inr ⟨rfl, by omega⟩⟩

theorem Num.slice {w m v n f Z} (h : Num w m v n f Z) : ∃ a c, v = .slice a n c := by
  obtain ⟨a, c, e, -⟩ := h.lim
  exact ⟨a, c, e⟩

theorem sum_large {w w' m m' v v' n n' f f' A B} (h : Num w m v n f A) (h' : Num w' m' v' n' f' B) (hs : Lid ≤ (A + B).natAbs) : 40 ≤ n ∨ 40 ≤ n' := by
  apply Decidable.byContradiction
  intro hn
  have h1 := val_lt h.norm.lt n
  have h2 := val_lt h'.norm.lt n'
  rw [h.norm.val] at h1
  rw [h'.norm.val] at h2
  have p1 : 4294967296 ^ n ≤ 4294967296 ^ 39 := Nat.pow_le_pow_right (by decide) (by omega)
  have p2 : 4294967296 ^ n' ≤ 4294967296 ^ 39 := Nat.pow_le_pow_right (by decide) (by omega)
  have p3 : Lid = 4294967296 * 4294967296 ^ 39 := by unfold Lid; rw [pow_s]
  have := Int.natAbs_add_le A B
  generalize 4294967296 ^ 39 = P at *
  generalize 4294967296 ^ n = P1 at *
  generalize 4294967296 ^ n' = P2 at *
  omega

theorem mul_large {w w' m m' v v' n n' f f' A B} (h : Num w m v n f A) (h' : Num w' m' v' n' f' B) (hs : Lid ≤ (A * B).natAbs) : 40 < n + n' := by
  apply Decidable.byContradiction
  intro hn
  have h1 := val_lt h.norm.lt n
  have h2 := val_lt h'.norm.lt n'
  rw [h.norm.val] at h1
  rw [h'.norm.val] at h2
  have h3 : A.natAbs * B.natAbs < 4294967296 ^ n * 4294967296 ^ n' := Nat.mul_lt_mul'' h1 h2
  rw [← Nat.pow_add] at h3
  have p1 : 4294967296 ^ (n + n') ≤ 4294967296 ^ 40 := Nat.pow_le_pow_right (by decide) (by omega)
  rw [Int.natAbs_mul] at hs
  unfold Lid at hs
  omega

theorem mul_len {w w' w2 m m' m2 v v' v2 n n' n2 f f' f2 A B} (h : Num w m v n f A) (h' : Num w' m' v' n' f' B) (h2 : Num w2 m2 v2 n2 f2 (A * B)) :
    n2 ≤ n + n' ∧ (0 < n → 0 < n' → n + n' ≤ n2 + 1) ∧ (n2 = 0 ↔ n = 0 ∨ n' = 0) := by
  have e := h2.norm
  rw [Int.natAbs_mul] at e
  refine ⟨?_, fun ha hb => ?_, ?_⟩
  · apply e.count
    have h1 := val_lt h.norm.lt n
    have h2 := val_lt h'.norm.lt n'
    rw [h.norm.val] at h1
    rw [h'.norm.val] at h2
    rw [Nat.pow_add]
    exact Nat.mul_lt_mul'' h1 h2
  · apply Decidable.byContradiction
    intro hn
    obtain ⟨i, rfl⟩ : ∃ i, n = i + 1 := ⟨n - 1, by omega⟩
    obtain ⟨j, rfl⟩ : ∃ j, n' = j + 1 := ⟨n' - 1, by omega⟩
    have h1 := val_top (h.norm.top (by omega))
    have h3 := val_top (h'.norm.top (by omega))
    rw [show i + 1 - 1 = i from rfl, h.norm.val] at h1
    rw [show j + 1 - 1 = j from rfl, h'.norm.val] at h3
    have h4 := Nat.mul_le_mul h1 h3
    rw [← Nat.pow_add] at h4
    have h5 := val_lt e.lt n2
    rw [e.val] at h5
    have p1 : 4294967296 ^ n2 ≤ 4294967296 ^ (i + j) := Nat.pow_le_pow_right (by decide) (by omega)
    omega
  · have q := e.pos
    have q1 := h.norm.pos
    have q2 := h'.norm.pos
    have q3 : 0 < A.natAbs * B.natAbs ↔ 0 < A.natAbs ∧ 0 < B.natAbs := by
      constructor
      · intro hh
        exact ⟨Nat.pos_of_mul_pos_right hh, Nat.pos_of_mul_pos_left hh⟩
      · intro hh; exact Nat.mul_pos hh.1 hh.2
    omega

end Go.Proofs.Ytpcnmolncoaddaa

namespace Go.Proofs.Ytpcnmolncoaddaa
open Go.RowKit Go.Joins

/-- The byte at a place of a list. -/
def bl (L : List UInt8) (i : Nat) : Nat := (L[i]?.map UInt8.toNat).getD 0
theorem bt_mk (L : List UInt8) (i : Nat) : bt ⟨L.toArray⟩ i = bl L i := by rw [bt_data]; simp [bl]
theorem size_mk (L : List UInt8) : (⟨L.toArray⟩ : ByteArray).size = L.length := by simp [ByteArray.size]
theorem bl_left (L M : List UInt8) (i : Nat) (h : i < L.length) : bl (L ++ M) i = bl L i := by unfold bl; rw [List.getElem?_append_left h]
theorem bl_right (L M : List UInt8) (i : Nat) (h : L.length ≤ i) : bl (L ++ M) i = bl M (i - L.length) := by unfold bl; rw [List.getElem?_append_right h]

theorem dec_props : ∀ (K N : Nat), N < 10 ^ K → (∀ i, i < (dec K N).length → 48 ≤ bl (dec K N) i ∧ bl (dec K N) i ≤ 57) ∧ dv (bl (dec K N)) (dec K N).length = N ∧ (0 < N → 0 < (dec K N).length ∧ bl (dec K N) 0 ≠ 48) := by
  intro K
  induction K with
  | zero =>
    intro N h
    have : N = 0 := by simp at h; exact h
    subst this
    rw [dec_zero]
    exact ⟨fun i hi => by simp at hi, rfl, fun h => by omega⟩
  | succ K ih =>
    intro N h
    rcases Nat.eq_zero_or_pos N with h0 | hp
    · subst h0
      rw [dec_zero]
      exact ⟨fun i hi => by simp at hi, rfl, fun h => by omega⟩
    · obtain ⟨i1, i2, i3⟩ := ih (N / 10) (dec_bound h)
      rw [dec_step K N hp]
      have hc : (UInt8.ofNat (48 + N % 10)).toNat = 48 + N % 10 := by
        rw [UInt8.toNat_ofNat']
        have : N % 10 < 10 := Nat.mod_lt _ (by decide)
        omega
      have e1 : bl [UInt8.ofNat (48 + N % 10)] 0 = 48 + N % 10 := by simp only [bl, List.getElem?_cons_zero, Option.map_some, Option.getD_some]; exact hc
      have hm : N % 10 < 10 := Nat.mod_lt _ (by decide)
      refine ⟨fun i hi => ?_, ?_, fun _ => ?_⟩
      · simp only [List.length_append, List.length_cons, List.length_nil] at hi
        by_cases hl : i < (dec K (N / 10)).length
        · rw [bl_left _ _ _ hl]; exact i1 i hl
        · rw [bl_right _ _ _ (by omega), show i - (dec K (N / 10)).length = 0 by omega, e1]; omega
      · rw [List.length_append]
        show dv _ ((dec K (N / 10)).length + 1) = N
        simp only [dv]
        rw [dv_congr (g' := bl (dec K (N / 10))) (fun i hi => bl_left _ _ _ hi), i2, bl_right _ _ _ (Nat.le_refl _), Nat.sub_self, e1]
        omega
      · refine ⟨by simp, ?_⟩
        by_cases hl : 0 < (dec K (N / 10)).length
        · rw [bl_left _ _ _ hl]
          by_cases hz : 0 < N / 10
          · exact (i3 hz).2
          · have : N / 10 = 0 := by omega
            rw [this, dec_zero] at hl
            simp at hl
        · rw [bl_right _ _ _ (by omega), Nat.zero_sub, e1]
          have : ¬ 0 < N / 10 := fun hz => hl (i3 hz).1
          omega

/-- The digits of a number that is not 0. -/
theorem dec_form {N : Nat} (h0 : 0 < N) (hN : N < Lid) : Form ⟨(dec 386 N).toArray⟩ ∧ dv (bt ⟨(dec 386 N).toArray⟩) (⟨(dec 386 N).toArray⟩ : ByteArray).size = N ∧ bl (dec 386 N) 0 ≠ 48 ∧ 48 ≤ bl (dec 386 N) 0 := by
  have hb : N < 10 ^ 386 := Nat.lt_of_lt_of_le hN big10
  obtain ⟨i1, i2, i3⟩ := dec_props 386 N hb
  have i4 := i3 h0
  refine ⟨⟨fun i hi => ?_, by rw [size_mk]; exact i4.1, Or.inr (by rw [bt_mk]; exact i4.2)⟩, ?_, i4.2, (i1 0 i4.1).1⟩
  · rw [size_mk] at hi
    rw [bt_mk]; exact i1 i hi
  · rw [size_mk, dv_congr (fun i _ => bt_mk _ i), i2]

theorem ext_ext (n : Nat) (f : Nat → Nat) : ext n (ext n f) = ext n f := by
  funext i
  unfold ext
  split <;> rfl

theorem zeroSlice (Z : Int) (w : World) (m : Bool) (v : Value) (n : Nat) (f : Nat → Nat) (h : Num w m v n f Z) (hn : n = 0) : Z = 0 ∧ m = false := by
  have hp := h.norm.pos
  have hs := h.sign
  have : Z = 0 := by omega
  subst this
  exact ⟨rfl, by rw [hs]; rfl⟩

/-- The text of a number, and what reading it gives. -/
theorem readZ {m : Bool} {v : Value} {n : Nat} {f : Nat → Nat} {w0 : World} {A : Int} (h : Num w0 m v n f A) (w : World) :
    Calls Try.prog 27 #[.string ⟨(textOf m n f).toArray⟩] w fun e w' => Ans w w' e A ∧ Below w.heap.size w w' := by
  have hlid := h.lid
  unfold textOf
  rw [if_neg (by rw [h.fault]; simp)]
  by_cases hn : n = 0
  · rw [if_pos hn]
    obtain ⟨rfl, rfl⟩ := zeroSlice A w0 m v n f h hn
    have hF : Form ⟨[(48 : UInt8)].toArray⟩ := ⟨fun i hi => by
      rw [size_mk] at hi
      have : i = 0 := by simp at hi; exact hi
      subst this
      rw [bt_mk]; decide, by rw [size_mk]; decide, Or.inl (by rw [size_mk]; rfl)⟩
    have hN : Norm (fun _ => 0) 0 (dv (bt ⟨[(48 : UInt8)].toArray⟩) (⟨[(48 : UInt8)].toArray⟩ : ByteArray).size) := by
      rw [size_mk, dv_congr (fun i _ => bt_mk _ i)]
      exact Norm.nil
    refine (iRead_ok0 _ _ false w (by rw [size_mk]; decide) (fun w => cut_plain _ w (by rw [size_mk]; decide) (by rw [← Bool.not_eq_true, head_minus (by rw [size_mk]; decide), bt_mk]; decide)) (fun _ => 0) 0 hN hF rfl (by rw [size_mk]; decide)).mono ?_
    intro e w' he
    refine ans_of ?_ (fun h => absurd rfl h) he
    exact ⟨fun i => by unfold ext; simp, fun i _ => by unfold ext; simp, fun h => by omega, rfl⟩
  · rw [if_neg hn]
    have hp := h.norm.pos
    have hA : 0 < A.natAbs := by omega
    have hv : val (ext n f) n = A.natAbs := h.norm.val
    rw [hv]
    obtain ⟨hF, hd, h48, h48'⟩ := dec_form hA hlid
    have hlen := dec_len 386 A.natAbs
    have hN : Norm (ext n f) n (dv (bt ⟨(dec 386 A.natAbs).toArray⟩) (⟨(dec 386 A.natAbs).toArray⟩ : ByteArray).size) := by rw [hd]; exact h.norm
    have hs := h.sign
    have hNN : Norm (ext n (ext n f)) n A.natAbs := by rw [ext_ext]; exact h.norm
    by_cases hm : m = true
    · rw [if_pos hm]
      have hx : (⟨(45 :: dec 386 A.natAbs).toArray⟩ : ByteArray).extract 1 (⟨(45 :: dec 386 A.natAbs).toArray⟩ : ByteArray).size = ⟨(dec 386 A.natAbs).toArray⟩ := by
        apply ByteArray.ext
        rw [ByteArray.data_extract, size_mk]
        simp
      have cut : Hid (∀ w, Calls Try.prog 67 #[.string ⟨(45 :: dec 386 A.natAbs).toArray⟩, .string ⟨#[45]⟩] w fun e w' => e = .returned (.tuple #[.string ⟨(dec 386 A.natAbs).toArray⟩, .bool true]) ∧ w' = w) := fun w => by
        have := cut_minus ⟨(45 :: dec 386 A.natAbs).toArray⟩ w (by rw [size_mk]; simp) ((head_minus (by rw [size_mk]; simp)).2 (by rw [bt_mk]; rfl))
        rwa [hx] at this
      have g0 : ((⟨(dec 386 A.natAbs).toArray⟩ : ByteArray).toList == [48]) = false := by
        rw [← Bool.not_eq_true, list_one]
        rintro ⟨-, h⟩
        rw [bt_mk] at h
        exact h48 h
      refine (iRead_ok1 _ _ true w (by rw [size_mk]; omega) cut (ext n f) n hN hF rfl g0 (by rw [size_mk]; omega)).mono ?_
      intro e w' he
      exact ans_of hNN (fun _ => by rw [← hs, hm]) he
    · rw [if_neg hm]
      have hm' : m = false := by simpa using hm
      have cut : Hid (∀ w, Calls Try.prog 67 #[.string ⟨(dec 386 A.natAbs).toArray⟩, .string ⟨#[45]⟩] w fun e w' => e = .returned (.tuple #[.string ⟨(dec 386 A.natAbs).toArray⟩, .bool false]) ∧ w' = w) := fun w =>
        cut_plain _ w hF.2.1 (by rw [← Bool.not_eq_true, head_minus hF.2.1, bt_mk]; omega)
      refine (iRead_ok0 _ _ false w (by rw [size_mk]; omega) cut (ext n f) n hN hF rfl (by rw [size_mk]; omega)).mono ?_
      intro e w' he
      exact ans_of hNN (fun _ => by rw [← hs, hm']) he

/-- A text that begins with 0 and goes on is none of a number. -/
theorem bad0 (L : List UInt8) (w : World) (h0 : 0 < L.length) (hl : L.length ≤ 1000) (s : ByteArray) (hs : s = ⟨(48 :: L).toArray⟩) :
    Calls Try.prog 27 #[.string s] w fun e w' => e = .returned (.agg #[.int .i64 1, .bool false, .slice none 0 0]) ∧ Below w.heap.size w w' := by
  subst hs
  have hz : (⟨(48 :: L).toArray⟩ : ByteArray).size = L.length + 1 := by rw [size_mk]; rfl
  refine iRead_bad _ _ false w (by omega) (fun w => cut_plain _ w (by omega) (by rw [← Bool.not_eq_true, head_minus (by omega), bt_mk]; exact (by decide : ¬ (48 : Nat) = 45))) (fun h => ?_)
  rcases h.2.2 with h | h
  · omega
  · rw [bt_mk] at h; exact h rfl

/-- A text that ends in a blank is none of a number. -/
theorem bad32 (L : List UInt8) (w : World) (h0 : 0 < L.length) (hl : L.length ≤ 1000) (s : ByteArray) (hs : s = ⟨(L ++ [32]).toArray⟩) :
    Calls Try.prog 27 #[.string s] w fun e w' => e = .returned (.agg #[.int .i64 1, .bool false, .slice none 0 0]) ∧ Below w.heap.size w w' := by
  have hz : s.size = L.length + 1 := by rw [hs, size_mk]; simp
  have hlast : bt s L.length = 32 := by
    rw [hs, bt_mk, bl_right _ _ _ (Nat.le_refl _), Nat.sub_self]; rfl
  clear hs
  by_cases h45 : bt s 0 = 45
  · have gz : (s.extract 1 s.size).size = s.size - 1 := by rw [ByteArray.size_extract]; omega
    refine iRead_bad s (s.extract 1 s.size) true w (by omega) (fun w => cut_minus s w (by omega) ((head_minus (by omega)).2 h45)) (fun h => ?_)
    have hd := h.1 (L.length - 1) (by omega)
    rw [bt_extract s 1 s.size (L.length - 1) (Nat.le_refl _) (by omega), show 1 + (L.length - 1) = L.length by omega, hlast] at hd
    omega
  · refine iRead_bad s s false w (by omega) (fun w => cut_plain s w (by omega) (by rw [← Bool.not_eq_true, head_minus (by omega)]; exact h45)) (fun h => ?_)
    have hd := h.1 L.length (by omega)
    rw [hlast] at hd
    omega

theorem text_len {m : Bool} {v : Value} {n : Nat} {f : Nat → Nat} {w0 : World} {A : Int} (h : Num w0 m v n f A) : 0 < (textOf m n f).length ∧ (textOf m n f).length ≤ 500 := by
  unfold textOf
  rw [if_neg (by rw [h.fault]; simp)]
  by_cases hn : n = 0
  · rw [if_pos hn]; decide
  · rw [if_neg hn]
    have hp := h.norm.pos
    have hv : val (ext n f) n = A.natAbs := h.norm.val
    rw [hv]
    obtain ⟨hF, -⟩ := dec_form (show 0 < A.natAbs by omega) h.lid
    have h1 := hF.2.1
    rw [size_mk] at h1
    have hlen := dec_len 386 A.natAbs
    split
    · simp only [List.length_cons]; omega
    · omega

theorem two_norm (U : Nat) (h : U ≤ 9223372036854775808) : Norm (ext (trimN (two U) 2) (two U)) (trimN (two U) 2) U := by
  refine norm_trim (fun i _ => two_lt U h i) ?_
  simp only [val, two, if_true, Nat.one_ne_zero, if_false]
  omega

theorem num_two {B : Nat} {w : World} {v : Value} {U : Nat} {s : Bool} {x : Int} (hU : U ≤ 9223372036854775808) (ho : Own B w v (trimN (two U) 2) (two U)) (hx : x.natAbs = U) (hs : x ≠ 0 → s = decide (x < 0)) :
    Num w (s && decide (0 < trimN (two U) 2)) v (trimN (two U) 2) (two U) x := by
  have hN := two_norm U hU
  have hp := hN.pos
  have hle := trimN_le (two U) 2
  refine ⟨ho.lim, ?_, by rw [hx]; exact hN, ?_⟩
  · exact fault_trim s (two U) 2 (by omega)
  · by_cases h0 : x = 0
    · have : ¬ 0 < trimN (two U) 2 := by rw [hp]; omega
      simp [this, h0]
    · have : 0 < trimN (two U) 2 := by rw [hp]; omega
      simp [this, hs h0]

theorem wrap_back (A : Int) (h0 : -9223372036854775808 ≤ A) (h1 : A < 0) : wrap64 (IntKind.u64.wrap A) = A := by
  have e : IntKind.u64.wrap A = A + 18446744073709551616 := by
    show A % 18446744073709551616 = _
    omega
  rw [e]
  unfold wrap64
  omega

theorem ofZ (x : Int) (w : World) (h0 : -9223372036854775808 ≤ x) (h1 : x ≤ 9223372036854775807) :
    Calls Try.prog 29 #[.int .i64 x] w fun e w' => ∃ (m : Bool) (a : Option Addr) (n c : Nat) (f : Nat → Nat), e = .returned (.agg #[.bool m, .slice a n c]) ∧ Num w' m (.slice a n c) n f x ∧ Below w.heap.size w w' := by
  by_cases hx : 0 ≤ x
  · obtain ⟨U, rfl⟩ := Int.eq_ofNat_of_zero_le hx
    refine (iOf_pos U w (by omega) _ (hide rfl)).mono ?_
    rintro e w' ⟨v', rfl, ho, hb⟩
    obtain ⟨a, c, rfl, -⟩ := id ho
    exact ⟨_, a, _, c, _, rfl, num_two (by omega) ho (by simp) (fun _ => by simp), hb⟩
  · obtain ⟨U, hU⟩ := Int.eq_ofNat_of_zero_le (show 0 ≤ -x by omega)
    obtain rfl : x = -(U : Int) := by omega
    refine (iOf_neg U w (by omega) (by omega) _ (hide rfl)).mono ?_
    rintro e w' ⟨v', rfl, ho, hb⟩
    obtain ⟨a, c, rfl, -⟩ := id ho
    exact ⟨_, a, _, c, _, rfl, num_two (by omega) ho (by simp) (fun _ => by simp; omega), hb⟩

/-- Whether a number is small. -/
def isSmall (A : Int) : Bool := decide (-9223372036854775808 ≤ A) && decide (A ≤ 9223372036854775807)

theorem smallOf_eq {m : Bool} {v : Value} {n : Nat} {f : Nat → Nat} {w : World} {A : Int} (h : Num w m v n f A) : smallOf m n f = (isSmall A, if isSmall A = true then A else 0) := by
  have hp := h.norm.pos
  unfold smallOf
  by_cases hn : 2 < n
  · rw [if_pos (Or.inr hn)]
    have hbig : isSmall A = false := by
      have h1 : 4294967296 ^ 2 ≤ A.natAbs := by
        apply Decidable.byContradiction
        intro hh
        have := h.norm.count (k := 2) (by omega)
        omega
      have e2 : (4294967296 : Nat) ^ 2 = 18446744073709551616 := by decide
      rw [e2] at h1
      unfold isSmall
      by_cases hx : -9223372036854775808 ≤ A
      · have hy : ¬ A ≤ 9223372036854775807 := by omega
        simp [hy]
      · simp [hx]
    rw [hbig]
    simp
  · rw [if_neg (by rw [h.fault]; simp; omega)]
    have hU : ext n f 1 * 4294967296 + ext n f 0 = A.natAbs := by
      rw [← h.norm.val, ← val_ext_out (f := f) (show n ≤ 2 by omega)]
      simp only [val]
      omega
    rw [hU]
    have hs := h.sign
    by_cases hA : A < 0
    · have hm : m = true := by rw [hs]; simp [hA]
      subst hm
      have hg : smallG true A.natAbs = isSmall A := by
        rw [smallG_t]
        unfold isSmall
        by_cases hx : -9223372036854775808 ≤ A
        · have hy : A ≤ 9223372036854775807 := by omega
          have hz : (A.natAbs : Int) ≤ 9223372036854775808 := by omega
          simp only [hx, hy, hz, decide_true, Bool.and_self]
        · have hz : ¬ (A.natAbs : Int) ≤ 9223372036854775808 := by omega
          simp only [hx, hz, decide_false, Bool.false_and]
      by_cases hb : isSmall A = true
      · rw [smallX_t (hg.trans hb), hg, hb]
        have hx : -9223372036854775808 ≤ A := by unfold isSmall at hb; simp at hb; exact hb.1
        rw [if_pos rfl, show -(A.natAbs : Int) = A by omega]
        rw [wrap_back A hx hA]
      · have hb' : isSmall A = false := by simpa using hb
        rw [smallX_n (hg.trans hb'), hg, hb']
        rfl
    · have hm : m = false := by rw [hs]; simp [hA]
      subst hm
      have hg : smallG false A.natAbs = isSmall A := by
        rw [smallG_f]
        unfold isSmall
        have hx : -9223372036854775808 ≤ A := by omega
        by_cases hy : A ≤ 9223372036854775807
        · have hz : (A.natAbs : Int) < 9223372036854775808 := by omega
          simp only [hx, hy, hz, decide_true, Bool.and_self]
        · have hz : ¬ (A.natAbs : Int) < 9223372036854775808 := by omega
          simp only [hy, hz, decide_false, Bool.and_false]
      by_cases hb : isSmall A = true
      · rw [smallX_f (hg.trans hb), hg, hb]
        rw [if_pos rfl, show (A.natAbs : Int) = A by omega]
      · have hb' : isSmall A = false := by simpa using hb
        rw [smallX_n (hg.trans hb'), hg, hb']
        rfl

end Go.Proofs.Ytpcnmolncoaddaa

namespace Go.Proofs.Ytpcnmolncoaddaa
open Go.RowKit Go.Joins

theorem sAddZ {m m' : Bool} {v v' : Value} {n n' : Nat} {f f' : Nat → Nat} {w : World} {A B : Int} (h : Num w m v n f A) (h' : Num w m' v' n' f' B) :
    Calls Try.prog 45 #[.agg #[.bool m, v], .agg #[.bool m', v']] w fun e w' => Ans w w' e (A + B) ∧ Below w.heap.size w w' := by
  refine (sAdd_ok m m' v v' n n' f f' w h.lim h'.lim h.fault h'.fault _ _ _ (hide rfl) (hide rfl) (hide rfl)).mono ?_
  intro e w' he
  have := addNorm h.norm h'.norm m m' (A + B) (by rw [← natAbs_sgn h.sign, ← natAbs_sgn h'.sign])
  exact ans_of this.1 this.2 he

theorem sMulZ {m m' : Bool} {v v' : Value} {n n' : Nat} {f f' : Nat → Nat} {w : World} {A B : Int} (h : Num w m v n f A) (h' : Num w m' v' n' f' B) :
    Calls Try.prog 47 #[.agg #[.bool m, v], .agg #[.bool m', v']] w fun e w' => Ans w w' e (A * B) ∧ Below w.heap.size w w' := by
  refine (sMul2_ok m m' v v' n n' f f' w h.lim h'.lim h.fault h'.fault _ _ _ (hide rfl) (hide rfl) (hide rfl)).mono ?_
  intro e w' he
  have := mulNorm h.norm h'.norm
  rw [← Int.natAbs_mul] at this
  refine ans_of this (fun hz => ?_) he
  rw [h.sign, h'.sign]
  have ha : A ≠ 0 := fun e => hz (by rw [e, Int.zero_mul])
  have hb : B ≠ 0 := fun e => hz (by rw [e, Int.mul_zero])
  by_cases h1 : A < 0 <;> by_cases h2 : B < 0
  · have := Int.mul_pos_of_neg_of_neg h1 h2
    simp [h1, h2]; omega
  · have := Int.mul_neg_of_neg_of_pos h1 (show 0 < B by omega)
    simp [h1, h2, this]
  · have := Int.mul_neg_of_pos_of_neg (show 0 < A by omega) h2
    simp [h1, h2, this]
  · have := Int.mul_pos (show 0 < A by omega) (show 0 < B by omega)
    simp [h1, h2]; omega

/-- The model's product of numbers that may be at fault: where its code is 0 it is a number. -/
theorem sMulA {m m' : Bool} {v v' : Value} {n n' : Nat} {f f' : Nat → Nat} {w : World} {B : Int} (h : Lim w v n f) (h' : Num w m' v' n' f' B) :
    Calls Try.prog 47 #[.agg #[.bool m, v], .agg #[.bool m', v']] w fun e w' => ∃ (code : Int) (mr : Bool) (a : Option Addr) (N c : Nat) (D : Nat → Nat), e = .returned (.agg #[.int .i64 code, .bool mr, .slice a N c]) ∧
      (code ≠ 0 ∨ code = 0 ∧ Own w.heap.size w' (.slice a N c) N D ∧ ∃ Z, Num w' mr (.slice a N c) N D Z) ∧ Below w.heap.size w w' := by
  by_cases hf : faultB m n f = true
  · refine (sMul2_f m m' v v' n n' f f' w h h'.lim (.inl hf)).mono ?_
    rintro e w' ⟨rfl, hb⟩
    exact ⟨1, false, none, 0, 0, fun _ => 0, rfl, .inl (by decide), hb⟩
  · obtain ⟨A, hN⟩ := num_of h (Bool.eq_false_iff.2 hf)
    refine (sMulZ hN h').mono ?_
    rintro e w' ⟨ha, hb⟩
    by_cases hz : (A * B).natAbs < Lid
    · obtain ⟨mr, vr, N, D, rfl, ho, hn⟩ := ha.1 hz
      obtain ⟨a, c, rfl, -⟩ := id ho
      exact ⟨0, mr, a, N, c, D, rfl, .inr ⟨rfl, ho, _, hn⟩, hb⟩
    · obtain ⟨vr, rfl, ho⟩ := ha.2 (by omega)
      obtain ⟨a, c, rfl, -⟩ := id ho
      exact ⟨2, false, a, 0, c, fun _ => 0, rfl, .inl (by decide), hb⟩

theorem sAddA {m m' : Bool} {v v' : Value} {n n' : Nat} {f f' : Nat → Nat} {w : World} {A B : Int} (h : Num w m v n f A) (h' : Num w m' v' n' f' B) :
    Calls Try.prog 45 #[.agg #[.bool m, v], .agg #[.bool m', v']] w fun e w' => ∃ (code : Int) (mr : Bool) (a : Option Addr) (N c : Nat) (D : Nat → Nat), e = .returned (.agg #[.int .i64 code, .bool mr, .slice a N c]) ∧
      Own w.heap.size w' (.slice a N c) N D ∧ Below w.heap.size w w' := by
  refine (sAddZ h h').mono ?_
  rintro e w' ⟨ha, hb⟩
  by_cases hz : (A + B).natAbs < Lid
  · obtain ⟨mr, vr, N, D, rfl, ho, hn⟩ := ha.1 hz
    obtain ⟨a, c, rfl, -⟩ := id ho
    exact ⟨0, mr, a, N, c, D, rfl, ho, hb⟩
  · obtain ⟨vr, rfl, ho⟩ := ha.2 (by omega)
    obtain ⟨a, c, rfl, -⟩ := id ho
    exact ⟨2, false, a, 0, c, fun _ => 0, rfl, ho, hb⟩

theorem ofS (x : Int) (w : World) (h0 : -9223372036854775808 ≤ x) (h1 : x ≤ 9223372036854775807) :
    Calls Try.prog 35 #[.int .i64 x] w fun e w' => ∃ (m : Bool) (a : Option Addr) (n c : Nat) (f : Nat → Nat), e = .returned (.agg #[.bool m, .slice a n c]) ∧ Num w' m (.slice a n c) n f x ∧ Below w.heap.size w w' := by
  by_cases hx : 0 ≤ x
  · obtain ⟨U, rfl⟩ := Int.eq_ofNat_of_zero_le hx
    refine (sOf_pos U w (by omega) _ (hide rfl)).mono ?_
    rintro e w' ⟨v', rfl, ho, hb⟩
    obtain ⟨a, c, rfl, -⟩ := id ho
    exact ⟨_, a, _, c, _, rfl, num_two (by omega) ho (by simp) (fun _ => by simp), hb⟩
  · obtain ⟨U, hU⟩ := Int.eq_ofNat_of_zero_le (show 0 ≤ -x by omega)
    obtain rfl : x = -(U : Int) := by omega
    refine (sOf_neg U w (by omega) (by omega) _ (hide rfl)).mono ?_
    rintro e w' ⟨v', rfl, ho, hb⟩
    obtain ⟨a, c, rfl, -⟩ := id ho
    exact ⟨_, a, _, c, _, rfl, num_two (by omega) ho (by simp) (fun _ => by simp; omega), hb⟩

theorem below_da (w : World) (o : Obj) : Below w.heap.size w (w.drew.alloc o) := (below_drew0 w).trans (show Below w.heap.size w.drew (w.drew.alloc o) from below_alloc1 w.drew o)

/-- Where the draws of one region stand. -/
structure DS (p k T : Nat) (W w' : World) : Prop where
  dr : Dr p W w'
  src : ∃ t', t' ≤ T ∧ Src w' p k t'

theorem DS.via {p k T W w' w''} (h : DS p k T W w') (hb : Below w'.heap.size w' w'') (hp : p ≤ W.heap.size) : DS p k T W w'' := by
  obtain ⟨t', h1, h2⟩ := h.src
  exact ⟨h.dr.trans (Dr.below hb (Nat.le_trans hp h.dr.size)), t', h1, h2.below hb⟩

theorem wr_in (x : Int) : -9223372036854775808 ≤ IntKind.i64.wrap x ∧ IntKind.i64.wrap x ≤ 9223372036854775807 := by
  rw [IntKind.wrap_i64]
  omega

abbrev FD (p k T : Nat) (W w' : World) (b : Nat) (x0 x1 : Value) : Prop := (w'.cell? ⟨b, 0, none⟩ = some x0 ∧ w'.cell? ⟨b, 1, none⟩ = some x1) ∧ DS p k T W w'
theorem FD.of {p k T W w' b x0 x1} (h : Bx W b x0 x1) (hb : b ≠ p) (d : DS p k T W w') : FD p k T W w' b x0 x1 :=
  have h' := h.dr d.dr hb
  ⟨⟨h'.c0, h'.c1⟩, d⟩
theorem FD.via {p k T W w' w'' b x0 x1} (h : Bx W b x0 x1) (hp : b ≠ p ∧ p ≤ W.heap.size) (hb : Below w'.heap.size w' w'') (d : FD p k T W w' b x0 x1) : FD p k T W w'' b x0 x1 :=
  FD.of h hp.1 (d.2.via hb hp.2)
theorem FD.dr' {p k T W w' b x0 x1} (h : FD p k T W w' b x0 x1) : Dr p W w' := h.2.dr
theorem Res3.dr {p w w' b x0 x1 x2} (h : Res3 w b x0 x1 x2) (hd : Dr p w w') (hb : b ≠ p) : Res3 w' b x0 x1 x2 :=
  ⟨(hd.cell h.lt hb).trans h.c0, (hd.cell h.lt hb).trans h.c1, (hd.cell h.lt hb).trans h.c2, (hd.frozen h.lt hb).trans h.f0, (hd.frozen h.lt hb).trans h.f1, (hd.frozen h.lt hb).trans h.f2, Nat.lt_of_lt_of_le h.lt hd.size⟩
theorem DS.set3 {p k T W w'} (h : DS p k T W w') (b : Nat) (u0 u1 u2 : Value) (hb : W.heap.size ≤ b) (hp : p < W.heap.size) : DS p k T W (((w'.setCell ⟨b, 0, none⟩ u0).setCell ⟨b, 1, none⟩ u1).setCell ⟨b, 2, none⟩ u2) := by
  have hl : Below b w' (((w'.setCell ⟨b, 0, none⟩ u0).setCell ⟨b, 1, none⟩ u1).setCell ⟨b, 2, none⟩ u2) := (((Below.refl _ _).setCell (by exact Nat.le_refl _) _).setCell (by exact Nat.le_refl _) _).setCell (by exact Nat.le_refl _) _
  obtain ⟨t', h1, h2⟩ := h.src
  exact ⟨h.dr.below' (hl.mono hb) (by omega), t', h1, h2.up hl (by omega)⟩
theorem Num.set3 {wx : World} {b : Nat} {m : Bool} {v : Value} {n : Nat} {f : Nat → Nat} {Z : Int} (h : Num wx m v n f Z) (u0 u1 u2 : Value) (hb : 0 < n → v.ownBlock ≠ some b) : Num (((wx.setCell ⟨b, 0, none⟩ u0).setCell ⟨b, 1, none⟩ u1).setCell ⟨b, 2, none⟩ u2) m v n f Z :=
  ⟨h.lim.set3 u0 u1 u2 hb, h.fault, h.norm, h.sign⟩

theorem field28d (x : Int) (m : Bool) (a : Option Addr) (n c : Nat) (w : World) : Sem.run Try.prog (Instr.field 28 (.agg #[.int .i64 x, .bool m, .slice a n c]) 1) w = .ok (.agg #[.bool m, .slice a n c]) w := by kernel_rfl
theorem At3.drX {p w w' b x0 x1 x2} (h : At3 w b x0 x1 x2) (hd : Dr p w w') (hb : b ≠ p) : At3 w' b x0 x1 x2 := h.keep (hd.eq h.lt hb) hd.size
theorem heap_set2 (w : World) (q : Nat) (u0 u1 : Value) (b : Nat) (hb : b ≠ q) : ((w.setCell ⟨q, 0, none⟩ u0).setCell ⟨q, 1, none⟩ u1).heap[b]? = w.heap[b]? :=
  ((Only.setCell (w.setCell ⟨q, 0, none⟩ u0) ⟨q, 1, none⟩ u1).block b hb).trans ((Only.setCell w ⟨q, 0, none⟩ u0).block b hb)
theorem size_set2 (w : World) (q : Nat) (u0 u1 : Value) : w.heap.size ≤ ((w.setCell ⟨q, 0, none⟩ u0).setCell ⟨q, 1, none⟩ u1).heap.size := by simp
theorem At3.set2 {w b x0 x1 x2} (h : At3 w b x0 x1 x2) (q : Nat) (u0 u1 : Value) (hb : b ≠ q) : At3 ((w.setCell ⟨q, 0, none⟩ u0).setCell ⟨q, 1, none⟩ u1) b x0 x1 x2 := h.keep (heap_set2 w q u0 u1 b hb) (size_set2 w q u0 u1)
theorem Bx.set2 {w b x0 x1} (h : Bx w b x0 x1) (q : Nat) (u0 u1 : Value) (hb : b ≠ q) : Bx ((w.setCell ⟨q, 0, none⟩ u0).setCell ⟨q, 1, none⟩ u1) b x0 x1 := h.keep (heap_set2 w q u0 u1 b hb) (size_set2 w q u0 u1)
theorem Bx.put2 {w b x0 x1} (h : Bx w b x0 x1) (u0 u1 : Value) : Bx ((w.setCell ⟨b, 0, none⟩ u0).setCell ⟨b, 1, none⟩ u1) b u0 u1 := by
  obtain ⟨c0, c1, f0, f1, lt⟩ := h
  exact ⟨by simp [go_sem, c0], by simp [go_sem, c1], by simpa [go_sem] using f0, by simpa [go_sem] using f1, by simpa using lt⟩
theorem Num.drX {p B : Nat} {w w' : World} {m : Bool} {v : Value} {n : Nat} {f : Nat → Nat} {Z : Int} (h : Num w m v n f Z) (ho : Own B w v n f) (hd : Dr p w w') (hp : p < B) : Num w' m v n f Z := ⟨(ho.dr hd hp).lim, h.fault, h.norm, h.sign⟩

set_option maxHeartbeats 4000000 in
set_option maxRecDepth 100000 in
theorem drawDiv_any (v : Value) (k : Nat) (w : World) (hB : Byt w v k) (hk : k ≤ 2000000) :
    Calls Try.prog 23 #[v] w fun e w' => ∃ (m : Bool) (v : Value) (n : Nat) (f : Nat → Nat) (m' : Bool) (v' : Value) (n' : Nat) (f' : Nat → Nat), e = .returned (.tuple #[.agg #[.bool m, v], .agg #[.bool m', v']]) ∧ Own w.heap.size w' v n f ∧ Own w.heap.size w' v' n' f' ∧ Below w.heap.size w w' := by
  have hb0 := below_alloc2 w (.cells #[.bool false, .slice none 0 0] 25) (.cells #[.bool false, .slice none 0 0] 25)
  have hx0 := (Bx.start w (.bool false) (.slice none 0 0) 25).next (below_alloc1 _ (.cells #[.bool false, .slice none 0 0] 25))
  have hy0 := Bx.start (w.alloc (.cells #[.bool false, .slice none 0 0] 25)) (.bool false) (.slice none 0 0) 25
  simp only [World.size_alloc] at hy0
  obtain ⟨a, c, rfl, hc, -, hb⟩ := hB.below hb0
  clear hB
  go_enter Try.func23, Try.ntmps23
  go_wp2_with fail
  refine (source_any a k c _ hk hc hb).mono ?_
  rintro e w1 ⟨rfl, hS1, hb1⟩
  simp only [World.size_alloc] at hS1
  have hx1 := hx0.next hb1
  have hy1 := hy0.next hb1
  have hB1 := hb0.trans (hb1.mono (by simp only [World.size_alloc]; omega))
  have hl1 := hS1.lt
  clear hx0 hy0 hb0 hb1 hb
  go_wp2_with fail
  refine (maybeBig_any _ k 0 _ hS1 hk (by omega)).mono ?_
  rintro e w2 ⟨m2, v2, n2, f2, t2, rfl, ho2, hn2, hS2, ht2, hd2⟩
  obtain ⟨a2, c2, rfl, -⟩ := id ho2
  have hA2 := below_alloc1 w2 (.cells #[.bool m2, .slice a2 n2 c2] 25)
  have xa := Bx.start w2 (.bool m2) (.slice a2 n2 c2) 25
  have hz2 := hd2.size
  have hx2 := (hx1.dr hd2 (by omega)).next hA2
  have hy2 := (hy1.dr hd2 (by omega)).next hA2
  have hB2 := (hB1.trans (hd2.bel.mono (by omega))).trans (hA2.mono (by have := hB1.size; omega))
  replace ho2 := ho2.below hA2
  replace hS2 := hS2.below hA2
  clear hx1 hy1 hB1 hS1 hd2
  go_wp2_with fail
  refine (maybeBig_any _ k t2 _ hS2 hk (by omega)).mono ?_
  rintro e w3 ⟨m3, v3, n3, f3, t3, rfl, ho3, hn3, hS3, ht3, hd3⟩
  simp only [World.size_alloc] at ho3
  obtain ⟨a3, c3, rfl, -⟩ := id ho3
  have hA3 := below_alloc1 w3 (.cells #[.bool m3, .slice a3 n3 c3] 25)
  have xb := Bx.start w3 (.bool m3) (.slice a3 n3 c3) 25
  have hz3 := hd3.size
  simp only [World.size_alloc] at hz3
  have hx3 := (hx2.dr hd3 (by omega)).next hA3
  have hy3 := (hy2.dr hd3 (by omega)).next hA3
  replace xa := (xa.dr hd3 (by omega)).next hA3
  have hB3 := (hB2.trans (hd3.bel.mono (by omega))).trans (hA3.mono (by omega))
  replace ho2 := (ho2.dr hd3 (by omega)).below hA3
  replace ho3 := ho3.below hA3
  replace hS3 := hS3.below hA3
  clear hx2 hy2 hB2 hS2 hd3 hA2 hA3
  go_wp2_with fail
  refine (chance_any _ k t3 3 _ hS3 hk (by omega) (by decide) (by decide)).mono ?_
  rintro e w4 ⟨r4, rfl, hS4, ho4⟩
  have hd4 := Dr.only ho4
  have hz4 := hd4.size
  simp only [World.size_alloc] at hz4
  have hx4 := hx3.dr hd4 (by omega)
  have hy4 := hy3.dr hd4 (by omega)
  replace xa := xa.dr hd4 (by omega)
  replace xb := xb.dr hd4 (by omega)
  have hB4 := hB3.trans (hd4.bel.mono (by omega))
  replace ho2 := ho2.dr hd4 (by omega)
  replace ho3 := ho3.dr hd4 (by omega)
  clear hx3 hy3 hB3 hS3 hd4 ho4
  generalize hP : w.heap.size + 1 + 1 = P at *
  generalize hba : w2.heap.size = ba at *
  generalize hbb : w3.heap.size = bb at *
  generalize hw1 : w1.heap.size = s1 at *
  cases r4
  · obtain ⟨c0, c1, f0, f1, lt⟩ := id hx4
    obtain ⟨d0, d1, e0, e1, lt'⟩ := id hy4
    obtain ⟨p0, p1, q0, q1, plt⟩ := id xa
    obtain ⟨r0, r1, s0, s1, rlt⟩ := id xb
    have y1 : ¬ bb = w.heap.size := by omega
    have y2 : ¬ w.heap.size = bb := by omega
    have y3 : ¬ bb = w.heap.size + 1 := by omega
    have y4 : ¬ w.heap.size + 1 = bb := by omega
    have y5 : ¬ ba = w.heap.size := by omega
    have y6 : ¬ w.heap.size = ba := by omega
    have y7 : ¬ ba = w.heap.size + 1 := by omega
    have y8 : ¬ w.heap.size + 1 = ba := by omega
    go_wp2_with fail
    go_region
    all_goals go_wp2_with fail
    refine bodyPost_ret (v := .tuple #[.agg #[.bool m2, .slice a2 n2 c2], .agg #[.bool m3, .slice a3 n3 c3]]) (by simp [results, Try.results23, go_sem, c0, c1, d0, d1]) rfl ?_
    refine ⟨_, _, n2, f2, _, _, n3, f3, rfl, ?_, ?_, ?_⟩
    · exact (((((ho2.set _ _ (by show w.heap.size < _; omega)).set _ _ (by show w.heap.size < _; omega)).set _ _ (by show w.heap.size + 1 < _; omega)).set _ _ (by show w.heap.size + 1 < _; omega)).less (by omega)).below (below_drew0 _)
    · exact (((((ho3.set _ _ (by show w.heap.size < _; omega)).set _ _ (by show w.heap.size < _; omega)).set _ _ (by show w.heap.size + 1 < _; omega)).set _ _ (by show w.heap.size + 1 < _; omega)).less (by omega)).below (below_drew0 _)
    · exact ((((hB4.setCell (by show _ ≤ w.heap.size; omega) _).setCell (by show _ ≤ w.heap.size; omega) _).setCell (by show _ ≤ w.heap.size + 1; omega) _).setCell (by show _ ≤ w.heap.size + 1; omega) _).trans ((below_drew0 _).mono (by have := hB4.size; simp; omega))
  · go_upto_region 5 with fail
    go_cut [7] (fun s7 wx => ∃ (b7 : Nat) (code : Int) (mr : Bool) (vr : Value), s7 = .pointer (some ⟨b7, 0, none⟩) ∧ At3 wx b7 (.int .i64 code) (.bool mr) vr ∧ (code ≠ 0 ∨ code = 0 ∧ ∃ N D Z, Own w4.heap.size wx vr N D ∧ Num wx mr vr N D Z) ∧ w4.heap.size ≤ b7 ∧ DS P k (t3 + 1 + 1) w4 wx)
    case first =>
      obtain ⟨r0, r1, s0, s1, rlt⟩ := id xb
      have hst : DS P k (t3 + 1 + 1) w4 w4.drew := ⟨Dr.below (below_drew0 _) (by omega), t3 + 1, by omega, hS4.below (below_drew0 _)⟩
      have hne : bb ≠ P := by omega
      have hpp : bb ≠ P ∧ P ≤ w4.heap.size := ⟨by omega, by omega⟩
      have L3 := hide ho3
      have hPba : P < ba + 1 := by omega
      have hPlt : P < w4.heap.size := by omega
      go_region_held3 (fun w' => (w'.cell? ⟨bb, 0, none⟩ = some (.bool m3) ∧ w'.cell? ⟨bb, 1, none⟩ = some (.slice a3 n3 c3)) ∧ DS P k (t3 + 1 + 1) w4 w') (first | exact FD.of xb hne hst | exact fs7 | exact fs6 | exact fs5 | exact FD.via xb hpp (below_alloc1 _ _) (FD.of xb hne hst) | exact FD.via xb hpp (below_alloc1 _ _) fs5 | exact FD.via xb hpp (below_alloc1 _ _) fs6 | exact FD.via xb hpp (below_alloc1 _ _) fs7 | exact FD.of xb hne (DS.set3 fs7.2 _ _ _ _ (by first | omega | exact Nat.le_refl _) hPlt)) (first
        | (go_at_call 61; refine (next_any P k (t3 + 1) 1000 _ ?_ hk (by omega) (by decide) (by decide)).mono ?_; (first | exact hS4.below (below_drew0 _) | exact hS4.below (below_da _ _)); rintro e w5 ⟨r5, hr5, rfl, hS5, ho5⟩; have fs5 : FD P k (t3 + 1 + 1) w4 w5 bb (.bool m3) (.slice a3 n3 c3) := FD.of xb hne ⟨Dr.trans (FD.dr' (by assumption)) (Dr.only ho5), _, Nat.le_refl _, hS5⟩; have y5 := fs5.2.dr.size; (try (have hr3 := Res3.dr (by first | exact Res3.start _ _ _ _ _ | exact Res3.drew (Res3.start _ _ _ _ _) | assumption) (Dr.only ho5) (by first | omega | (simp only [heap_drew]; omega)); (try simp only [heap_drew] at hr3); obtain ⟨c0, c1, c2, f0, f1, f2, lt3⟩ := id hr3)))
        | (go_at_call 35; refine (ofS _ _ (wr_in _).1 (wr_in _).2).mono ?_; rintro e w6 ⟨m6, a6, n6, c6, f6, rfl, N6, hb6⟩; have fs6 := FD.via xb hpp hb6 (by assumption); have y6 := fs6.2.dr.size; have z6 := hb6.size; (try simp only [World.size_alloc] at z6); (try (have hr3 := Res3.next (by first | exact Res3.start _ _ _ _ _ | exact Res3.drew (Res3.start _ _ _ _ _) | assumption) hb6; (try simp only [heap_drew] at hr3); obtain ⟨c0, c1, c2, f0, f1, f2, lt3⟩ := id hr3)))
        | (go_at_call 47; refine (sMulA (m := m3) (f := f3) (Own.lim (Own.dr L3.out (FD.dr' (p := P) (k := k) (T := t3 + 1 + 1) (W := w4) (b := bb) (x0 := .bool m3) (x1 := .slice a3 n3 c3) (by assumption)) hPba)) (by first | exact N6 | exact N6.below (below_alloc1 _ _))).mono ?_; rintro e w7 ⟨code, mr, a7, N7, c7, D7, rfl, hor, hb7⟩; have fs7 := FD.via xb hpp hb7 (by assumption); have y7 := fs7.2.dr.size; have z7 := hb7.size; (try simp only [World.size_alloc] at z7); (try (have hr3 := Res3.next (by first | exact Res3.start _ _ _ _ _ | exact Res3.drew (Res3.start _ _ _ _ _) | assumption) hb7; (try simp only [heap_drew] at hr3); obtain ⟨c0, c1, c2, f0, f1, f2, lt3⟩ := id hr3))))
      all_goals
        go_wp2_with fail
        go_meet
        case rel =>
          have hd7 := fs7.2
          rcases hor with hc | ⟨hc0, hor, Z, hZ⟩
          · first
            | exact ⟨_, code, mr, _, rfl, At3.start _ _ _ _ _, .inl hc, by omega, hd7.via (below_alloc1 _ _) hpp.2⟩
            | exact ⟨_, code, mr, _, rfl, At3.set3 (by assumption) _ _ _, .inl hc, by omega, hd7.set3 _ _ _ _ (by omega) hPlt⟩
          · have hin := hor.inn
            try simp only [World.size_alloc] at hin hor
            first
            | exact ⟨_, code, mr, _, rfl, At3.start _ _ _ _ _, .inr ⟨hc0, _, _, Z, (hor.less (by omega)).below (below_alloc1 _ _), hZ.below (below_alloc1 _ _)⟩, by omega, hd7.via (below_alloc1 _ _) hpp.2⟩
            | exact ⟨_, code, mr, _, rfl, At3.set3 (by assumption) _ _ _, .inr ⟨hc0, _, _, Z, (((hor.set _ _ (by first | omega | (show w4.heap.size < _; omega) | (show w5.heap.size < _; omega) | (show w6.heap.size < _; omega))).set _ _ (by first | omega | (show w4.heap.size < _; omega) | (show w5.heap.size < _; omega) | (show w6.heap.size < _; omega))).set _ _ (by first | omega | (show w4.heap.size < _; omega) | (show w5.heap.size < _; omega) | (show w6.heap.size < _; omega))).less (by omega), hZ.set3 _ _ _ (fun hn hb => by have := (hin _ hn hb).1; omega)⟩, by omega, hd7.set3 _ _ _ _ (by omega) hPlt⟩
    case rest =>
      obtain ⟨b7, code, mr, vr, rfl, x7, hor, hb7, d7⟩ := hcut
      rename World => wx
      obtain ⟨t', ht', hS5⟩ := d7.src
      have hz5 := d7.dr.size
      have hx5 := hx4.dr d7.dr (by omega)
      have hy5 := hy4.dr d7.dr (by omega)
      replace xa := xa.dr d7.dr (by omega)
      replace xb := xb.dr d7.dr (by omega)
      have hB5 := hB4.trans (d7.dr.bel.mono (by omega))
      replace ho2 := ho2.dr d7.dr (by omega)
      replace ho3 := ho3.dr d7.dr (by omega)
      clear hx4 hy4 hB4 hS4
      obtain ⟨i0, i1, i2, ilt⟩ := id x7
      rcases hor with hc | ⟨rfl, N, D, Z, hOr, hN⟩
      · have hc' : (code == 0) = false := by simpa using hc
        clear hc
        obtain ⟨c0, c1, f0, f1, lt⟩ := id hx5
        obtain ⟨d0, d1, e0, e1, lt'⟩ := id hy5
        obtain ⟨p0, p1, q0, q1, plt⟩ := id xa
        obtain ⟨r0, r1, s0, s1, rlt⟩ := id xb
        have y1 : ¬ bb = w.heap.size := by omega
        have y2 : ¬ w.heap.size = bb := by omega
        have y3 : ¬ bb = w.heap.size + 1 := by omega
        have y4 : ¬ w.heap.size + 1 = bb := by omega
        have y5 : ¬ ba = w.heap.size := by omega
        have y6 : ¬ w.heap.size = ba := by omega
        have y7 : ¬ ba = w.heap.size + 1 := by omega
        have y8 : ¬ w.heap.size + 1 = ba := by omega
        go_wp2_with fail
        go_region
        all_goals go_wp2_with fail
        refine bodyPost_ret (v := .tuple #[.agg #[.bool m2, .slice a2 n2 c2], .agg #[.bool m3, .slice a3 n3 c3]]) (by simp [results, Try.results23, go_sem, c0, c1, d0, d1]) rfl ?_
        refine ⟨_, _, n2, f2, _, _, n3, f3, rfl, ?_, ?_, ?_⟩
        · exact (((((ho2.set _ _ (by show w.heap.size < _; omega)).set _ _ (by show w.heap.size < _; omega)).set _ _ (by show w.heap.size + 1 < _; omega)).set _ _ (by show w.heap.size + 1 < _; omega)).less (by omega)).below (below_drew0 _)
        · exact (((((ho3.set _ _ (by show w.heap.size < _; omega)).set _ _ (by show w.heap.size < _; omega)).set _ _ (by show w.heap.size + 1 < _; omega)).set _ _ (by show w.heap.size + 1 < _; omega)).less (by omega)).below (below_drew0 _)
        · exact ((((hB5.setCell (by show _ ≤ w.heap.size; omega) _).setCell (by show _ ≤ w.heap.size; omega) _).setCell (by show _ ≤ w.heap.size + 1; omega) _).setCell (by show _ ≤ w.heap.size + 1; omega) _).trans ((below_drew0 _).mono (by have := hB5.size; simp; omega))
      · obtain ⟨ar, cr, rfl⟩ := hN.slice
        go_upto_region 7 with fail
        go_cut [31] (fun _ w' => ∃ (ma : Bool) (aa : Option Addr) (na ca : Nat) (fa : Nat → Nat), Bx w' ba (.bool ma) (.slice aa na ca) ∧ Bx w' bb (.bool m3) (.slice a3 n3 c3) ∧ Bx w' w.heap.size (.bool false) (.slice none 0 0) ∧ Bx w' (w.heap.size + 1) (.bool false) (.slice none 0 0) ∧ Own s1 w' (.slice aa na ca) na fa ∧ Own (ba + 1) w' (.slice a3 n3 c3) n3 f3 ∧ Below w.heap.size w w')
        case first =>
          have hfd := field28d
          have hOp := hide hOr
          go_region_held3 (fun w' => w'.cell? ⟨b7, 1, none⟩ = some (.bool mr) ∧ w'.cell? ⟨b7, 2, none⟩ = some (.slice ar N cr)) (first | exact ⟨i1, i2⟩ | exact ⟨j5.c1, j5.c2⟩ | exact ⟨j6.c1, j6.c2⟩ | exact ⟨j7.c1, j7.c2⟩ | exact ⟨(At3.set2 j7 _ _ _ (by omega)).c1, (At3.set2 j7 _ _ _ (by omega)).c2⟩) (first
            | (go_at_call 61; refine (next_any P k t' 3 _ (hS5.below (below_drew0 _)) hk (by omega) (by decide) (by decide)).mono ?_; rintro e w5 ⟨r5, hr5, rfl, hS6, ho5⟩; have g5 : Dr P wx w5 := Dr.trans (Dr.below (below_drew0 _) (by omega)) (Dr.only ho5); have j5 := At3.drX x7 g5 (by omega))
            | (go_at_call 35; refine (ofS _ _ (wr_in _).1 (wr_in _).2).mono ?_; rintro e w6 ⟨m6, a6, n6, c6, f6, rfl, N6, hb6⟩; have g6 := Dr.trans g5 (Dr.below hb6 (by have := g5.size; omega)); have j6 := At3.drX x7 g6 (by omega))
            | (go_at_call 45; refine (sAddA (Num.drX hN hOp.out g6 (by omega)) N6).mono ?_; rintro e w7 ⟨cd, mr7, a7, N7, c7, D7, rfl, ho7, hb7'⟩; have g7 := Dr.trans g6 (Dr.below hb7' (by have := g6.size; omega)); have j7 := At3.drX x7 g7 (by omega); have xa7 := Bx.dr xa g7 (by omega); obtain ⟨p0, p1, q0, q1, plt⟩ := id xa7))
          all_goals
            go_wp2_with fail
            go_meet
            case rel =>
              refine ⟨_, _, _, _, D7, xa7.put2 _ _, (xb.dr g7 (by omega)).set2 _ _ _ (by omega), (hx5.dr g7 (by omega)).set2 _ _ _ (by omega), (hy5.dr g7 (by omega)).set2 _ _ _ (by omega), ?_, ?_, ?_⟩
              · have := g6.size
                exact ((ho7.set _ _ (by show ba < _; omega)).set _ _ (by show ba < _; omega)).less (by omega)
              · exact ((ho3.dr g7 (by omega)).set _ _ (by show ba < _; omega)).set _ _ (by show ba < _; omega)
              · exact ((hB5.trans (g7.bel.mono (by omega))).setCell (by show _ ≤ ba; omega) _).setCell (by show _ ≤ ba; omega) _
        case rest =>
          obtain ⟨ma, aa, na, ca, fa, xa5, xb5, hx6, hy6, oa5, ob5, hB6⟩ := hcut
          clear i0 i1 i2 ilt x7 hN hOr xa xb hx5 hy5 ho2 ho3 hB5 d7 hS5
          obtain ⟨c0, c1, f0, f1, lt⟩ := id hx6
          obtain ⟨d0, d1, e0, e1, lt'⟩ := id hy6
          obtain ⟨p0, p1, q0, q1, plt⟩ := id xa5
          obtain ⟨r0, r1, s0, s1, rlt⟩ := id xb5
          have y1 : ¬ bb = w.heap.size := by omega
          have y2 : ¬ w.heap.size = bb := by omega
          have y3 : ¬ bb = w.heap.size + 1 := by omega
          have y4 : ¬ w.heap.size + 1 = bb := by omega
          have y5 : ¬ ba = w.heap.size := by omega
          have y6 : ¬ w.heap.size = ba := by omega
          have y7 : ¬ ba = w.heap.size + 1 := by omega
          have y8 : ¬ w.heap.size + 1 = ba := by omega
          go_wp2_with fail
          go_region
          all_goals go_wp2_with fail
          refine bodyPost_ret (v := .tuple #[.agg #[.bool ma, .slice aa na ca], .agg #[.bool m3, .slice a3 n3 c3]]) (by simp [results, Try.results23, go_sem, c0, c1, d0, d1]) rfl ?_
          refine ⟨_, _, na, fa, _, _, n3, f3, rfl, ?_, ?_, ?_⟩
          · exact (((((oa5.set _ _ (by show w.heap.size < _; omega)).set _ _ (by show w.heap.size < _; omega)).set _ _ (by show w.heap.size + 1 < _; omega)).set _ _ (by show w.heap.size + 1 < _; omega)).less (by omega)).below (below_drew0 _)
          · exact (((((ob5.set _ _ (by show w.heap.size < _; omega)).set _ _ (by show w.heap.size < _; omega)).set _ _ (by show w.heap.size + 1 < _; omega)).set _ _ (by show w.heap.size + 1 < _; omega)).less (by omega)).below (below_drew0 _)
          · exact ((((hB6.setCell (by show _ ≤ w.heap.size; omega) _).setCell (by show _ ≤ w.heap.size; omega) _).setCell (by show _ ≤ w.heap.size + 1; omega) _).setCell (by show _ ≤ w.heap.size + 1; omega) _).trans ((below_drew0 _).mono (by have := hB6.size; simp; omega))

end Go.Proofs.Ytpcnmolncoaddaa

namespace Go.Proofs.Ytpcnmolncoaddaa
open Go.RowKit Go.Joins

theorem Num.abs {w : World} {m : Bool} {v : Value} {n : Nat} {f : Nat → Nat} {Z : Int} (h : Num w m v n f Z) : Num w false v n f (Z.natAbs : Int) := by
  refine ⟨h.lim, ?_, ?_, ?_⟩
  · have := h.fault
    unfold faultB at this ⊢
    split at this
    · rename_i h0; rw [if_pos h0]
    · rename_i h0; rw [if_neg h0]; exact this
  · rw [Int.natAbs_natCast]; exact h.norm
  · simp

theorem ord_lt {A B : Int} (h : A < B) : ord A B = -1 := by unfold ord; rw [if_pos h]

/-- Where the product is too large: the remainder is not 0, and the first number has all its limbs. -/
theorem div_large {w w' : World} {m m' : Bool} {v v' : Value} {n n' : Nat} {f f' : Nat → Nat} {A B Q R : Int} (h : Num w m v n f A) (h' : Num w' m' v' n' f' B)
    (e : A = Q * B + R) (hr : R.natAbs < B.natAbs) (hl : Lid ≤ (Q * B).natAbs) : R ≠ 0 ∧ n = 40 := by
  have hA := h.lid
  have hB := h'.lid
  have hR : R ≠ 0 := by
    intro h0
    subst h0
    rw [Int.add_zero] at e
    rw [← e] at hl
    omega
  refine ⟨hR, ?_⟩
  have hle := h.le
  apply Decidable.byContradiction
  intro hn
  have h1 := val_lt h.norm.lt n
  rw [h.norm.val] at h1
  have p1 : 4294967296 ^ n ≤ 4294967296 ^ 39 := Nat.pow_le_pow_right (by decide) (by omega)
  have p3 : Lid = 4294967296 * 4294967296 ^ 39 := by unfold Lid; rw [pow_s]
  have hq : (Q * B).natAbs ≤ A.natAbs + R.natAbs := by omega
  by_cases hAB : A.natAbs < B.natAbs
  · rw [Int.natAbs_mul] at hq hl
    have h2 : Q.natAbs * B.natAbs < 2 * B.natAbs := by omega
    have h3 : Q.natAbs < 2 := Nat.lt_of_mul_lt_mul_right h2
    have h4 : Q.natAbs * B.natAbs ≤ 1 * B.natAbs := Nat.mul_le_mul_right _ (by omega)
    omega
  · generalize 4294967296 ^ 39 = P at *
    generalize 4294967296 ^ n = P1 at *
    omega

end Go.Proofs.Ytpcnmolncoaddaa

namespace Go.Proofs.Ytpcnmolncoaddaa
open Go.RowKit Go.Joins

structure At5 (W : World) (b : Nat) (x0 x1 x2 x3 x4 : Value) : Prop where
  c0 : W.cell? ⟨b, 0, none⟩ = some x0
  c1 : W.cell? ⟨b, 1, none⟩ = some x1
  c2 : W.cell? ⟨b, 2, none⟩ = some x2
  c3 : W.cell? ⟨b, 3, none⟩ = some x3
  c4 : W.cell? ⟨b, 4, none⟩ = some x4
  lt : b < W.heap.size

theorem At5.start (w : World) (x0 x1 x2 x3 x4 : Value) (t : TypeId) : At5 (w.alloc (.cells #[x0, x1, x2, x3, x4] t)) w.heap.size x0 x1 x2 x3 x4 := ⟨by simp, by simp, by simp, by simp, by simp, by simp⟩
theorem At5.next {w1 w2 : World} {b : Nat} {x0 x1 x2 x3 x4 : Value} (h : At5 w1 b x0 x1 x2 x3 x4) (hb : Below w1.heap.size w1 w2) : At5 w2 b x0 x1 x2 x3 x4 :=
  ⟨(hb.cell h.lt).trans h.c0, (hb.cell h.lt).trans h.c1, (hb.cell h.lt).trans h.c2, (hb.cell h.lt).trans h.c3, (hb.cell h.lt).trans h.c4, Nat.lt_of_lt_of_le h.lt hb.size⟩

theorem field28b (x : Int) (m : Bool) (a : Option Addr) (n c : Nat) (w : World) : Sem.run Try.prog (Instr.field 28 (.agg #[.int .i64 x, .bool m, .slice a n c]) 1) w = .ok (.agg #[.bool m, .slice a n c]) w := by kernel_rfl
theorem field37 (x : Int) (m m' : Bool) (a a' : Option Addr) (n c n' c' : Nat) (w : World) : Sem.run Try.prog (Instr.field 37 (.agg #[.int .i64 x, .bool m, .slice a n c, .bool m', .slice a' n' c']) 0) w = .ok (.int .i64 x) w := by kernel_rfl

theorem T12.of {W w' : World} {bp bq ba : Nat} {p0 p1 p2 p3 p4 q0 q1 q2 a0 a1 : Value} (xp : At5 W bp p0 p1 p2 p3 p4) (xq : At3 W bq q0 q1 q2) (xa : At2 W ba a0 a1) (hb : Below W.heap.size W w') :
    (w'.cell? ⟨bp, 0, none⟩ = some p0 ∧ w'.cell? ⟨bp, 3, none⟩ = some p3 ∧ w'.cell? ⟨bp, 4, none⟩ = some p4 ∧ w'.cell? ⟨bq, 0, none⟩ = some q0 ∧ w'.cell? ⟨bq, 1, none⟩ = some q1 ∧ w'.cell? ⟨bq, 2, none⟩ = some q2 ∧ w'.cell? ⟨ba, 0, none⟩ = some a0 ∧ w'.cell? ⟨ba, 1, none⟩ = some a1) ∧ Below W.heap.size W w' :=
  have a := xp.next hb
  have b := xq.next hb
  have c := xa.next hb
  ⟨⟨a.c0, a.c3, a.c4, b.c0, b.c1, b.c2, c.c0, c.c1⟩, hb⟩

set_option maxHeartbeats 4000000 in
set_option maxRecDepth 100000 in
theorem lawDivide (v : Value) (k : Nat) (w : World) (hB : Byt w v k) (hk2 : k ≤ 9223372036854775807) :
    Calls Try.prog 4 #[v] w fun e w' => e = .returned (.bool true) ∧ Below w.heap.size w w' := by
  obtain ⟨av, cv, rfl, -⟩ := id hB
  by_cases hbig : 1048576 < k
  · go_enter Try.func4, Try.ntmps4
    go_wp2_with fail
    go_ret
    exact ⟨rfl, Below.refl _ _⟩
  have hf37 := field37
  go_enter Try.func4, Try.ntmps4
  go_wp2_with fail
  refine (drawDiv_any _ k w hB (by omega)).mono ?_
  rintro e w1 ⟨ma, va, na, fa, mb, vb, nb, fb, rfl, oa, ob, hb1⟩
  obtain ⟨aa, ca, rfl, -⟩ := id oa
  obtain ⟨ab, cb, rfl, -⟩ := id ob
  have hc1 := below_alloc2 w1 (.cells #[.bool ma, .slice aa na ca] 25) (.cells #[.bool mb, .slice ab nb cb] 25)
  have xa := (At2.start w1 (.bool ma) (.slice aa na ca) 25).next (below_alloc1 _ (.cells #[.bool mb, .slice ab nb cb] 25))
  have xb := At2.start (w1.alloc (.cells #[.bool ma, .slice aa na ca] 25)) (.bool mb) (.slice ab nb cb) 25
  simp only [World.size_alloc] at xb
  have La := oa.lim.below hc1
  have Lb := ob.lim.below hc1
  have hw1 := hb1.trans (hc1.mono hb1.size)
  clear oa ob hb1 hc1 hB
  obtain ⟨a0, a1, alt⟩ := id xa
  obtain ⟨b0, b1, blt⟩ := id xb
  go_wp2_with fail
  refine (sFault_any ma _ na fa _ La).mono ?_
  rintro e w2 ⟨rfl, hb2⟩
  replace La := La.below hb2
  replace Lb := Lb.below hb2
  replace xa := xa.next hb2
  replace xb := xb.next hb2
  have hw2 := hw1.trans (hb2.mono hw1.size)
  clear hw1 hb2 a0 a1 alt b0 b1 blt
  generalize hbb : w1.heap.size + 1 = bb at *
  generalize hba : w1.heap.size = ba at *
  clear hba hbb
  obtain ⟨a0, a1, alt⟩ := id xa
  obtain ⟨b0, b1, blt⟩ := id xb
  by_cases hfa : faultB ma na fa = true
  · rw [hfa]
    go_wp2_with fail
    refine (iDiv_f1 ma mb _ _ na nb fa fb _ La Lb hfa).mono ?_
    rintro e w3 ⟨rfl, hb3⟩
    go_wp2_with fail
    go_ret
    exact ⟨rfl, hw2.trans (hb3.mono hw2.size)⟩
  replace hfa := Bool.eq_false_iff.2 hfa
  rw [hfa]
  go_wp2_with fail
  refine (sFault_any mb _ nb fb _ Lb).mono ?_
  rintro e w3 ⟨rfl, hb3⟩
  replace La := La.below hb3
  replace Lb := Lb.below hb3
  replace xa := xa.next hb3
  replace xb := xb.next hb3
  have hw3 := hw2.trans (hb3.mono hw2.size)
  clear hw2 hb3 a0 a1 alt b0 b1 blt
  obtain ⟨a0, a1, alt⟩ := id xa
  obtain ⟨b0, b1, blt⟩ := id xb
  by_cases hfb : faultB mb nb fb = true
  · rw [hfb]
    go_wp2_with fail
    refine (iDiv_f2 ma mb _ _ na nb fa fb _ La Lb hfa hfb).mono ?_
    rintro e w4 ⟨rfl, hb4⟩
    go_wp2_with fail
    go_ret
    exact ⟨rfl, hw3.trans (hb4.mono hw3.size)⟩
  replace hfb := Bool.eq_false_iff.2 hfb
  rw [hfb]
  by_cases hz : nb = 0
  · subst hz
    go_wp2_with fail
    refine (iDiv_zero ma mb _ _ na 0 fa fb _ La Lb hfa hfb rfl).mono ?_
    rintro e w4 ⟨rfl, hb4⟩
    have hb4' := hb4.trans ((below_alloc1 w4 (.cells #[.int .i64 3, .bool false, .slice none 0 0, .bool false, .slice none 0 0] 37)).mono hb4.size)
    have xp := At5.start w4 (.int .i64 3) (.bool false) (.slice none 0 0) (.bool false) (.slice none 0 0) 37
    replace xb := xb.next hb4'
    clear a0 a1 alt b0 b1 blt xa
    obtain ⟨b0, b1, blt⟩ := id xb
    obtain ⟨p0, p1, p2, p3, p4, plt⟩ := id xp
    go_wp2_with fail
    go_ret
    exact ⟨rfl, hw3.trans (hb4'.mono hw3.size)⟩
  have hz' : ((nb : Int) == 0) = false := by simp [hz]
  obtain ⟨A, NA⟩ := num_of La hfa
  obtain ⟨B, NB⟩ := num_of Lb hfb
  have hB0 : B ≠ 0 := by
    intro h0
    have := NB.norm.pos.1 (by omega)
    rw [h0] at this
    simp at this
  clear hfa hfb La Lb
  go_wp2_with fail
  refine (iDivZ NA NB hB0).mono ?_
  rintro e w4 ⟨Q, R, S, S', u, u', N, N', D, D', B1, hE, hR, hsR, rfl, oq, -, NQ, or', -, NR, hb4⟩
  obtain ⟨aq, cq, rfl⟩ := NQ.slice
  obtain ⟨ar, cr, rfl⟩ := NR.slice
  have hc4 := below_alloc1 w4 (.cells #[.int .i64 0, .bool S, .slice aq N cq, .bool S', .slice ar N' cr] 37)
  have hd4 := hb4.trans (hc4.mono hb4.size)
  have xp := At5.start w4 (.int .i64 0) (.bool S) (.slice aq N cq) (.bool S') (.slice ar N' cr) 37
  replace xa := xa.next hd4
  replace xb := xb.next hd4
  replace NA := NA.below hd4
  replace NB := NB.below hd4
  replace NQ := NQ.below hc4
  replace NR := NR.below hc4
  have hw4 := hw3.trans (hd4.mono hw3.size)
  clear oq or' hb4 hc4 hd4 hw3 a0 a1 alt b0 b1 blt
  obtain ⟨b0, b1, blt⟩ := id xb
  obtain ⟨p0, p1, p2, p3, p4, plt⟩ := id xp
  go_wp2_with fail
  refine (iMulZ NQ NB).mono ?_
  rintro e w5 ⟨h5, hb5⟩
  have HE := hide hE
  have HC := hide (ord_lt (show ((R.natAbs : Nat) : Int) < ((B.natAbs : Nat) : Int) by omega))
  have hS' := NR.sign
  have hmb := NB.sign
  have hN0 := NR.norm.pos
  have hna := NA.le
  by_cases hQ : Lid ≤ (Q * B).natAbs
  · obtain ⟨vq, rfl, ov⟩ := h5.2 hQ
    obtain ⟨aq2, cq2, rfl, -⟩ := id ov
    obtain ⟨hR0, h40⟩ := div_large NA NB hE hR hQ
    have hc5 := below_alloc1 w5 (.cells #[.int .i64 2, .bool false, .slice aq2 0 cq2] 28)
    have hd5 := hb5.trans (hc5.mono hb5.size)
    have xq := At3.start w5 (.int .i64 2) (.bool false) (.slice aq2 0 cq2) 28
    replace xa := xa.next hd5
    replace xb := xb.next hd5
    replace xp := xp.next hd5
    replace NB := NB.below hd5
    replace NR := NR.below hd5
    have hw5 := hw4.trans (hd5.mono hw4.size)
    have hSb : S' = mb := by rw [hS', hmb]; exact (hsR hR0).symm
    have hN1 : (0 : Int) < (N' : Int) := by have := hN0.2 (by omega); omega
    have h40' : ((na : Int) == 40) = true := by simp [h40]
    subst hSb
    clear hQ h5 hb5 hc5 hd5 hw4 hsR hE ov hS' hmb hN0 b0 b1 blt p0 p1 p2 p3 p4 plt NQ NA
    obtain ⟨a0, a1, alt⟩ := id xa
    obtain ⟨b0, b1, blt⟩ := id xb
    obtain ⟨p0, p1, p2, p3, p4, plt⟩ := id xp
    obtain ⟨q0, q1, q2, qlt⟩ := id xq
    go_wp2_with fail
    refine (iCompareZ NR.abs NB.abs).mono ?_
    rintro e w6 ⟨rfl, hb6⟩
    rw [HC.out]
    replace xb := xb.next hb6
    replace xp := xp.next hb6
    clear a0 a1 alt b0 b1 blt p0 p1 p2 p3 p4 plt q0 q1 q2 qlt
    obtain ⟨b0, b1, blt⟩ := id xb
    obtain ⟨p0, p1, p2, p3, p4, plt⟩ := id xp
    go_wp2_with fail
    go_ret
    exact ⟨ret_bool (by simp), hw5.trans (hb6.mono hw5.size)⟩
  · obtain ⟨mq, vq, nq, fq, rfl, ov, NP⟩ := h5.1 (by omega)
    obtain ⟨aq2, cq2, rfl⟩ := NP.slice
    have hc5 := below_alloc1 w5 (.cells #[.int .i64 0, .bool mq, .slice aq2 nq cq2] 28)
    have hd5 := hb5.trans (hc5.mono hb5.size)
    have xq := At3.start w5 (.int .i64 0) (.bool mq) (.slice aq2 nq cq2) 28
    replace xa := xa.next hd5
    replace xb := xb.next hd5
    replace xp := xp.next hd5
    replace NA := NA.below hd5
    replace NB := NB.below hd5
    replace NR := NR.below hd5
    replace NP := NP.below hc5
    have hw5 := hw4.trans (hd5.mono hw4.size)
    have hSb : 0 < N' → S' = mb := fun h => by rw [hS', hmb]; exact (hsR (by have := hN0.1 h; omega)).symm
    clear hQ h5 hb5 hc5 hd5 hw4 hsR hE ov hS' hmb hN0 b0 b1 blt p0 p1 p2 p3 p4 plt NQ
    generalize hbp : w4.heap.size = bp at *
    generalize hbq : w5.heap.size = bq at *
    clear hbp
    obtain ⟨a0, a1, alt⟩ := id xa
    obtain ⟨b0, b1, blt⟩ := id xb
    obtain ⟨p0, p1, p2, p3, p4, plt⟩ := id xp
    obtain ⟨q0, q1, q2, qlt⟩ := id xq
    go_upto_region 12 with fail
    generalize hW5 : w5.alloc (.cells #[.int .i64 0, .bool mq, .slice aq2 nq cq2] 28) = W5 at *
    clear hW5 hbq
    go_cut [97] (fun s97 wx => s97 = .bool false ∧ Below W5.heap.size W5 wx)
    case first =>
      have hfd := field28b
      go_region_held3 (fun w' => (w'.cell? ⟨bp, 0, none⟩ = some (.int .i64 0) ∧ w'.cell? ⟨bp, 3, none⟩ = some (.bool S') ∧ w'.cell? ⟨bp, 4, none⟩ = some (.slice ar N' cr) ∧ w'.cell? ⟨bq, 0, none⟩ = some (.int .i64 0) ∧ w'.cell? ⟨bq, 1, none⟩ = some (.bool mq) ∧ w'.cell? ⟨bq, 2, none⟩ = some (.slice aq2 nq cq2) ∧ w'.cell? ⟨ba, 0, none⟩ = some (.bool ma) ∧ w'.cell? ⟨ba, 1, none⟩ = some (.slice aa na ca)) ∧ Below W5.heap.size W5 w') (first | exact T12.of xp xq xa (below_drew0 _) | exact T12.of xp xq xa e1 | exact T12.of xp xq xa e2) (first
        | (go_at_call 17; refine (iAddZ (NP.below (below_drew0 _)) (NR.below (below_drew0 _))).mono ?_; rintro e w6 ⟨h6, hb6⟩; (obtain ⟨m8, v8, n8, f8, rfl, ok8, N8⟩ := h6.1 (by rw [← HE.out]; exact NA.lid)); (obtain ⟨a8, c8, rfl⟩ := N8.slice); have e1 := (below_drew0 W5).trans hb6)
        | (go_at_call 20; refine (sameBig_any N8 (NA.below e1)).mono ?_; rintro e w7 ⟨rfl, hb7⟩; have e2 := e1.trans (hb7.mono e1.size); rw [decide_eq_true HE.out.symm]))
      all_goals
        go_wp2_with fail
        go_meet
        case rel => exact ⟨rfl, e2⟩
    case rest =>
      obtain ⟨rfl, hb6⟩ := hcut
      rename World => w6
      have hw6 := hw5.trans (hb6.mono hw5.size)
      have hc6 := below_alloc1 w6 (.cells #[.bool false, .slice ar N' cr] 25)
      have hd6 := hb6.trans (hc6.mono hb6.size)
      have xs := At2.start w6 (.bool false) (.slice ar N' cr) 25
      replace xb := xb.next hd6
      have xp6 := xp.next hb6
      replace xp := xp.next hd6
      replace NB := NB.below hd6
      replace NR := NR.below hd6
      have hw7 := hw5.trans (hd6.mono hw5.size)
      clear hb6 hw6 hc6 hd6 hw5 a0 a1 alt b0 b1 blt p0 p1 p2 p3 p4 plt q0 q1 q2 qlt xq NP NA xa
      obtain ⟨u0, u1, u2, u3, u4, ult⟩ := id xp6
      obtain ⟨b0, b1, blt⟩ := id xb
      obtain ⟨p0, p1, p2, p3, p4, plt⟩ := id xp
      obtain ⟨s0, s1, slt⟩ := id xs
      by_cases h0 : N' = 0
      · have h0' : ((N' : Int) == 0) = true := by simp [h0]
        clear hSb h0
        go_wp2_with fail
        refine (iCompareZ NR.abs NB.abs).mono ?_
        rintro e w8 ⟨rfl, hb8⟩
        rw [HC.out]
        go_wp2_with fail
        go_ret
        exact ⟨ret_bool (by simp), hw7.trans (hb8.mono hw7.size)⟩
      · have h0' : ((N' : Int) == 0) = false := by simp [h0]
        obtain rfl := hSb (by omega)
        clear hSb h0
        go_wp2_with fail
        refine (iCompareZ NR.abs NB.abs).mono ?_
        rintro e w8 ⟨rfl, hb8⟩
        rw [HC.out]
        go_wp2_with fail
        go_ret
        exact ⟨ret_bool (by simp), hw7.trans (hb8.mono hw7.size)⟩

end Go.Proofs.Ytpcnmolncoaddaa

