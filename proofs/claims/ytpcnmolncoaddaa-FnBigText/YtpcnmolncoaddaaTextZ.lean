import Derived.Test.YtpcnmolncoaddaaRing1
import Derived.Test.YtpcnmolncoaddaaText
import Derived.Test.YtpcnmolncoaddaaSmall2
namespace Go.Proofs.Ytpcnmolncoaddaa
open Go.RowKit Go.Joins

/-- The byte at a place of a list. -/
def bl (L : List UInt8) (i : Nat) : Nat := (L[i]?.map UInt8.toNat).getD 0
theorem bt_mk (L : List UInt8) (i : Nat) : bt ⟨L.toArray⟩ i = bl L i := by rw [bt_data]; simp [bl]
theorem size_mk (L : List UInt8) : (⟨L.toArray⟩ : ByteArray).size = L.length := by simp [ByteArray.size]
theorem bl_left (L M : List UInt8) (i : Nat) (h : i < L.length) : bl (L ++ M) i = bl L i := by unfold bl; rw [List.getElem?_append_left h]
theorem bl_right (L M : List UInt8) (i : Nat) (h : L.length ≤ i) : bl (L ++ M) i = bl M (i - L.length) := by unfold bl; rw [List.getElem?_append_right h]

theorem dec_props : ∀ (K N : Nat), N < 10 ^ K → (∀ i, i < (dec K N).length → 48 ≤ bl (dec K N) i ∧ bl (dec K N) i ≤ 57) ∧ dv (bl (dec K N)) (dec K N).length = N ∧ (0 < N → 0 < (dec K N).length ∧ bl (dec K N) 0 ≠ 48) := by
  intro K
  induction K with
  | zero =>
    intro N h
    have : N = 0 := by simp at h; exact h
    subst this
    rw [dec_zero]
    exact ⟨fun i hi => by simp at hi, rfl, fun h => by omega⟩
  | succ K ih =>
    intro N h
    rcases Nat.eq_zero_or_pos N with h0 | hp
    · subst h0
      rw [dec_zero]
      exact ⟨fun i hi => by simp at hi, rfl, fun h => by omega⟩
    · obtain ⟨i1, i2, i3⟩ := ih (N / 10) (dec_bound h)
      rw [dec_step K N hp]
      have hc : (UInt8.ofNat (48 + N % 10)).toNat = 48 + N % 10 := by
        rw [UInt8.toNat_ofNat']
        have : N % 10 < 10 := Nat.mod_lt _ (by decide)
        omega
      have e1 : bl [UInt8.ofNat (48 + N % 10)] 0 = 48 + N % 10 := by simp only [bl, List.getElem?_cons_zero, Option.map_some, Option.getD_some]; exact hc
      have hm : N % 10 < 10 := Nat.mod_lt _ (by decide)
      refine ⟨fun i hi => ?_, ?_, fun _ => ?_⟩
      · simp only [List.length_append, List.length_cons, List.length_nil] at hi
        by_cases hl : i < (dec K (N / 10)).length
        · rw [bl_left _ _ _ hl]; exact i1 i hl
        · rw [bl_right _ _ _ (by omega), show i - (dec K (N / 10)).length = 0 by omega, e1]; omega
      · rw [List.length_append]
        show dv _ ((dec K (N / 10)).length + 1) = N
        simp only [dv]
        rw [dv_congr (g' := bl (dec K (N / 10))) (fun i hi => bl_left _ _ _ hi), i2, bl_right _ _ _ (Nat.le_refl _), Nat.sub_self, e1]
        omega
      · refine ⟨by simp, ?_⟩
        by_cases hl : 0 < (dec K (N / 10)).length
        · rw [bl_left _ _ _ hl]
          by_cases hz : 0 < N / 10
          · exact (i3 hz).2
          · have : N / 10 = 0 := by omega
            rw [this, dec_zero] at hl
            simp at hl
        · rw [bl_right _ _ _ (by omega), Nat.zero_sub, e1]
          have : ¬ 0 < N / 10 := fun hz => hl (i3 hz).1
          omega

/-- The digits of a number that is not 0. -/
theorem dec_form {N : Nat} (h0 : 0 < N) (hN : N < Lid) : Form ⟨(dec 386 N).toArray⟩ ∧ dv (bt ⟨(dec 386 N).toArray⟩) (⟨(dec 386 N).toArray⟩ : ByteArray).size = N ∧ bl (dec 386 N) 0 ≠ 48 ∧ 48 ≤ bl (dec 386 N) 0 := by
  have hb : N < 10 ^ 386 := Nat.lt_of_lt_of_le hN big10
  obtain ⟨i1, i2, i3⟩ := dec_props 386 N hb
  have i4 := i3 h0
  refine ⟨⟨fun i hi => ?_, by rw [size_mk]; exact i4.1, Or.inr (by rw [bt_mk]; exact i4.2)⟩, ?_, i4.2, (i1 0 i4.1).1⟩
  · rw [size_mk] at hi
    rw [bt_mk]; exact i1 i hi
  · rw [size_mk, dv_congr (fun i _ => bt_mk _ i), i2]

theorem ext_ext (n : Nat) (f : Nat → Nat) : ext n (ext n f) = ext n f := by
  funext i
  unfold ext
  split <;> rfl

theorem zeroSlice (Z : Int) (w : World) (m : Bool) (v : Value) (n : Nat) (f : Nat → Nat) (h : Num w m v n f Z) (hn : n = 0) : Z = 0 ∧ m = false := by
  have hp := h.norm.pos
  have hs := h.sign
  have : Z = 0 := by omega
  subst this
  exact ⟨rfl, by rw [hs]; rfl⟩

/-- The text of a number, and what reading it gives. -/
theorem readZ {m : Bool} {v : Value} {n : Nat} {f : Nat → Nat} {w0 : World} {A : Int} (h : Num w0 m v n f A) (w : World) :
    Calls Try.prog 27 #[.string ⟨(textOf m n f).toArray⟩] w fun e w' => Ans w w' e A ∧ Below w.heap.size w w' := by
  have hlid := h.lid
  unfold textOf
  rw [if_neg (by rw [h.fault]; simp)]
  by_cases hn : n = 0
  · rw [if_pos hn]
    obtain ⟨rfl, rfl⟩ := zeroSlice A w0 m v n f h hn
    have hF : Form ⟨[(48 : UInt8)].toArray⟩ := ⟨fun i hi => by
      rw [size_mk] at hi
      have : i = 0 := by simp at hi; exact hi
      subst this
      rw [bt_mk]; decide, by rw [size_mk]; decide, Or.inl (by rw [size_mk]; rfl)⟩
    have hN : Norm (fun _ => 0) 0 (dv (bt ⟨[(48 : UInt8)].toArray⟩) (⟨[(48 : UInt8)].toArray⟩ : ByteArray).size) := by
      rw [size_mk, dv_congr (fun i _ => bt_mk _ i)]
      exact Norm.nil
    refine (iRead_ok0 _ _ false w (by rw [size_mk]; decide) (fun w => cut_plain _ w (by rw [size_mk]; decide) (by rw [← Bool.not_eq_true, head_minus (by rw [size_mk]; decide), bt_mk]; decide)) (fun _ => 0) 0 hN hF rfl (by rw [size_mk]; decide)).mono ?_
    intro e w' he
    refine ans_of ?_ (fun h => absurd rfl h) he
    exact ⟨fun i => by unfold ext; simp, fun i _ => by unfold ext; simp, fun h => by omega, rfl⟩
  · rw [if_neg hn]
    have hp := h.norm.pos
    have hA : 0 < A.natAbs := by omega
    have hv : val (ext n f) n = A.natAbs := h.norm.val
    rw [hv]
    obtain ⟨hF, hd, h48, h48'⟩ := dec_form hA hlid
    have hlen := dec_len 386 A.natAbs
    have hN : Norm (ext n f) n (dv (bt ⟨(dec 386 A.natAbs).toArray⟩) (⟨(dec 386 A.natAbs).toArray⟩ : ByteArray).size) := by rw [hd]; exact h.norm
    have hs := h.sign
    have hNN : Norm (ext n (ext n f)) n A.natAbs := by rw [ext_ext]; exact h.norm
    by_cases hm : m = true
    · rw [if_pos hm]
      have hx : (⟨(45 :: dec 386 A.natAbs).toArray⟩ : ByteArray).extract 1 (⟨(45 :: dec 386 A.natAbs).toArray⟩ : ByteArray).size = ⟨(dec 386 A.natAbs).toArray⟩ := by
        apply ByteArray.ext
        rw [ByteArray.data_extract, size_mk]
        simp
      have cut : Hid (∀ w, Calls Try.prog 67 #[.string ⟨(45 :: dec 386 A.natAbs).toArray⟩, .string ⟨#[45]⟩] w fun e w' => e = .returned (.tuple #[.string ⟨(dec 386 A.natAbs).toArray⟩, .bool true]) ∧ w' = w) := fun w => by
        have := cut_minus ⟨(45 :: dec 386 A.natAbs).toArray⟩ w (by rw [size_mk]; simp) ((head_minus (by rw [size_mk]; simp)).2 (by rw [bt_mk]; rfl))
        rwa [hx] at this
      have g0 : ((⟨(dec 386 A.natAbs).toArray⟩ : ByteArray).toList == [48]) = false := by
        rw [← Bool.not_eq_true, list_one]
        rintro ⟨-, h⟩
        rw [bt_mk] at h
        exact h48 h
      refine (iRead_ok1 _ _ true w (by rw [size_mk]; omega) cut (ext n f) n hN hF rfl g0 (by rw [size_mk]; omega)).mono ?_
      intro e w' he
      exact ans_of hNN (fun _ => by rw [← hs, hm]) he
    · rw [if_neg hm]
      have hm' : m = false := by simpa using hm
      have cut : Hid (∀ w, Calls Try.prog 67 #[.string ⟨(dec 386 A.natAbs).toArray⟩, .string ⟨#[45]⟩] w fun e w' => e = .returned (.tuple #[.string ⟨(dec 386 A.natAbs).toArray⟩, .bool false]) ∧ w' = w) := fun w =>
        cut_plain _ w hF.2.1 (by rw [← Bool.not_eq_true, head_minus hF.2.1, bt_mk]; omega)
      refine (iRead_ok0 _ _ false w (by rw [size_mk]; omega) cut (ext n f) n hN hF rfl (by rw [size_mk]; omega)).mono ?_
      intro e w' he
      exact ans_of hNN (fun _ => by rw [← hs, hm']) he

/-- A text that begins with 0 and goes on is none of a number. -/
theorem bad0 (L : List UInt8) (w : World) (h0 : 0 < L.length) (hl : L.length ≤ 1000) (s : ByteArray) (hs : s = ⟨(48 :: L).toArray⟩) :
    Calls Try.prog 27 #[.string s] w fun e w' => e = .returned (.agg #[.int .i64 1, .bool false, .slice none 0 0]) ∧ Below w.heap.size w w' := by
  subst hs
  have hz : (⟨(48 :: L).toArray⟩ : ByteArray).size = L.length + 1 := by rw [size_mk]; rfl
  refine iRead_bad _ _ false w (by omega) (fun w => cut_plain _ w (by omega) (by rw [← Bool.not_eq_true, head_minus (by omega), bt_mk]; exact (by decide : ¬ (48 : Nat) = 45))) (fun h => ?_)
  rcases h.2.2 with h | h
  · omega
  · rw [bt_mk] at h; exact h rfl

/-- A text that ends in a blank is none of a number. -/
theorem bad32 (L : List UInt8) (w : World) (h0 : 0 < L.length) (hl : L.length ≤ 1000) (s : ByteArray) (hs : s = ⟨(L ++ [32]).toArray⟩) :
    Calls Try.prog 27 #[.string s] w fun e w' => e = .returned (.agg #[.int .i64 1, .bool false, .slice none 0 0]) ∧ Below w.heap.size w w' := by
  have hz : s.size = L.length + 1 := by rw [hs, size_mk]; simp
  have hlast : bt s L.length = 32 := by
    rw [hs, bt_mk, bl_right _ _ _ (Nat.le_refl _), Nat.sub_self]; rfl
  clear hs
  by_cases h45 : bt s 0 = 45
  · have gz : (s.extract 1 s.size).size = s.size - 1 := by rw [ByteArray.size_extract]; omega
    refine iRead_bad s (s.extract 1 s.size) true w (by omega) (fun w => cut_minus s w (by omega) ((head_minus (by omega)).2 h45)) (fun h => ?_)
    have hd := h.1 (L.length - 1) (by omega)
    rw [bt_extract s 1 s.size (L.length - 1) (Nat.le_refl _) (by omega), show 1 + (L.length - 1) = L.length by omega, hlast] at hd
    omega
  · refine iRead_bad s s false w (by omega) (fun w => cut_plain s w (by omega) (by rw [← Bool.not_eq_true, head_minus (by omega)]; exact h45)) (fun h => ?_)
    have hd := h.1 L.length (by omega)
    rw [hlast] at hd
    omega

theorem text_len {m : Bool} {v : Value} {n : Nat} {f : Nat → Nat} {w0 : World} {A : Int} (h : Num w0 m v n f A) : 0 < (textOf m n f).length ∧ (textOf m n f).length ≤ 500 := by
  unfold textOf
  rw [if_neg (by rw [h.fault]; simp)]
  by_cases hn : n = 0
  · rw [if_pos hn]; decide
  · rw [if_neg hn]
    have hp := h.norm.pos
    have hv : val (ext n f) n = A.natAbs := h.norm.val
    rw [hv]
    obtain ⟨hF, -⟩ := dec_form (show 0 < A.natAbs by omega) h.lid
    have h1 := hF.2.1
    rw [size_mk] at h1
    have hlen := dec_len 386 A.natAbs
    split
    · simp only [List.length_cons]; omega
    · omega

theorem two_norm (U : Nat) (h : U ≤ 9223372036854775808) : Norm (ext (trimN (two U) 2) (two U)) (trimN (two U) 2) U := by
  refine norm_trim (fun i _ => two_lt U h i) ?_
  simp only [val, two, if_true, Nat.one_ne_zero, if_false]
  omega

theorem num_two {B : Nat} {w : World} {v : Value} {U : Nat} {s : Bool} {x : Int} (hU : U ≤ 9223372036854775808) (ho : Own B w v (trimN (two U) 2) (two U)) (hx : x.natAbs = U) (hs : x ≠ 0 → s = decide (x < 0)) :
    Num w (s && decide (0 < trimN (two U) 2)) v (trimN (two U) 2) (two U) x := by
  have hN := two_norm U hU
  have hp := hN.pos
  have hle := trimN_le (two U) 2
  refine ⟨ho.lim, ?_, by rw [hx]; exact hN, ?_⟩
  · exact fault_trim s (two U) 2 (by omega)
  · by_cases h0 : x = 0
    · have : ¬ 0 < trimN (two U) 2 := by rw [hp]; omega
      simp [this, h0]
    · have : 0 < trimN (two U) 2 := by rw [hp]; omega
      simp [this, hs h0]

theorem wrap_back (A : Int) (h0 : -9223372036854775808 ≤ A) (h1 : A < 0) : wrap64 (IntKind.u64.wrap A) = A := by
  have e : IntKind.u64.wrap A = A + 18446744073709551616 := by
    show A % 18446744073709551616 = _
    omega
  rw [e]
  unfold wrap64
  omega

theorem ofZ (x : Int) (w : World) (h0 : -9223372036854775808 ≤ x) (h1 : x ≤ 9223372036854775807) :
    Calls Try.prog 29 #[.int .i64 x] w fun e w' => ∃ (m : Bool) (a : Option Addr) (n c : Nat) (f : Nat → Nat), e = .returned (.agg #[.bool m, .slice a n c]) ∧ Num w' m (.slice a n c) n f x ∧ Below w.heap.size w w' := by
  by_cases hx : 0 ≤ x
  · obtain ⟨U, rfl⟩ := Int.eq_ofNat_of_zero_le hx
    refine (iOf_pos U w (by omega) _ (hide rfl)).mono ?_
    rintro e w' ⟨v', rfl, ho, hb⟩
    obtain ⟨a, c, rfl, -⟩ := id ho
    exact ⟨_, a, _, c, _, rfl, num_two (by omega) ho (by simp) (fun _ => by simp), hb⟩
  · obtain ⟨U, hU⟩ := Int.eq_ofNat_of_zero_le (show 0 ≤ -x by omega)
    obtain rfl : x = -(U : Int) := by omega
    refine (iOf_neg U w (by omega) (by omega) _ (hide rfl)).mono ?_
    rintro e w' ⟨v', rfl, ho, hb⟩
    obtain ⟨a, c, rfl, -⟩ := id ho
    exact ⟨_, a, _, c, _, rfl, num_two (by omega) ho (by simp) (fun _ => by simp; omega), hb⟩

/-- Whether a number is small. -/
def isSmall (A : Int) : Bool := decide (-9223372036854775808 ≤ A) && decide (A ≤ 9223372036854775807)

theorem smallOf_eq {m : Bool} {v : Value} {n : Nat} {f : Nat → Nat} {w : World} {A : Int} (h : Num w m v n f A) : smallOf m n f = (isSmall A, if isSmall A = true then A else 0) := by
  have hp := h.norm.pos
  unfold smallOf
  by_cases hn : 2 < n
  · rw [if_pos (Or.inr hn)]
    have hbig : isSmall A = false := by
      have h1 : 4294967296 ^ 2 ≤ A.natAbs := by
        apply Decidable.byContradiction
        intro hh
        have := h.norm.count (k := 2) (by omega)
        omega
      have e2 : (4294967296 : Nat) ^ 2 = 18446744073709551616 := by decide
      rw [e2] at h1
      unfold isSmall
      by_cases hx : -9223372036854775808 ≤ A
      · have hy : ¬ A ≤ 9223372036854775807 := by omega
        simp [hy]
      · simp [hx]
    rw [hbig]
    simp
  · rw [if_neg (by rw [h.fault]; simp; omega)]
    have hU : ext n f 1 * 4294967296 + ext n f 0 = A.natAbs := by
      rw [← h.norm.val, ← val_ext_out (f := f) (show n ≤ 2 by omega)]
      simp only [val]
      omega
    rw [hU]
    have hs := h.sign
    by_cases hA : A < 0
    · have hm : m = true := by rw [hs]; simp [hA]
      subst hm
      have hg : smallG true A.natAbs = isSmall A := by
        rw [smallG_t]
        unfold isSmall
        by_cases hx : -9223372036854775808 ≤ A
        · have hy : A ≤ 9223372036854775807 := by omega
          have hz : (A.natAbs : Int) ≤ 9223372036854775808 := by omega
          simp only [hx, hy, hz, decide_true, Bool.and_self]
        · have hz : ¬ (A.natAbs : Int) ≤ 9223372036854775808 := by omega
          simp only [hx, hz, decide_false, Bool.false_and]
      by_cases hb : isSmall A = true
      · rw [smallX_t (hg.trans hb), hg, hb]
        have hx : -9223372036854775808 ≤ A := by unfold isSmall at hb; simp at hb; exact hb.1
        rw [if_pos rfl, show -(A.natAbs : Int) = A by omega]
        rw [wrap_back A hx hA]
      · have hb' : isSmall A = false := by simpa using hb
        rw [smallX_n (hg.trans hb'), hg, hb']
        rfl
    · have hm : m = false := by rw [hs]; simp [hA]
      subst hm
      have hg : smallG false A.natAbs = isSmall A := by
        rw [smallG_f]
        unfold isSmall
        have hx : -9223372036854775808 ≤ A := by omega
        by_cases hy : A ≤ 9223372036854775807
        · have hz : (A.natAbs : Int) < 9223372036854775808 := by omega
          simp only [hx, hy, hz, decide_true, Bool.and_self]
        · have hz : ¬ (A.natAbs : Int) < 9223372036854775808 := by omega
          simp only [hy, hz, decide_false, Bool.and_false]
      by_cases hb : isSmall A = true
      · rw [smallX_f (hg.trans hb), hg, hb]
        rw [if_pos rfl, show (A.natAbs : Int) = A by omega]
      · have hb' : isSmall A = false := by simpa using hb
        rw [smallX_n (hg.trans hb'), hg, hb']
        rfl

end Go.Proofs.Ytpcnmolncoaddaa
