import Derived.Test.YtppfohpgcofkbaaJC
import Derived.Deep.DeepCutAuto
namespace Go.Proofs.Ytppfohpgcofkbaa.B
open Go.RowKit Go.Joins

def addC (F G : Nat → Nat) : Nat → Nat
  | 0 => 0
  | k + 1 => (addC F G k + (F k + G k)) / 4294967296
def addD (F G : Nat → Nat) (k : Nat) : Nat := (addC F G k + (F k + G k)) % 4294967296

theorem addC_le {F G : Nat → Nat} (hF : ∀ i, F i < 4294967296) (hG : ∀ i, G i < 4294967296) (k : Nat) : addC F G k ≤ 1 := by
  induction k with
  | zero => simp [addC]
  | succ k ih => unfold addC; have := hF k; have := hG k; omega
theorem addD_lt (F G : Nat → Nat) (k : Nat) : addD F G k < 4294967296 := by unfold addD; omega

theorem addD_zero {F G : Nat → Nat} {N : Nat} (hF : ∀ i, N ≤ i → F i = 0) (hG : ∀ i, N ≤ i → G i = 0) (hC : addC F G N ≤ 1) (i : Nat) (hi : N < i) : addD F G i = 0 := by
  have hc : ∀ j, addC F G (N + 1 + j) = 0 := by
    intro j
    induction j with
    | zero => show addC F G (N + 1) = 0; unfold addC; rw [hF N (by omega), hG N (by omega)]; omega
    | succ j ih => show addC F G (N + 1 + j + 1) = 0; unfold addC; rw [ih, hF _ (by omega), hG _ (by omega)]
  obtain ⟨j, rfl⟩ : ∃ j, i = N + 1 + j := ⟨i - (N + 1), by omega⟩
  unfold addD
  rw [hc, hF _ (by omega), hG _ (by omega)]
theorem trimN_ext (f : Nat → Nat) (n : Nat) : trimN (ext n f) n = trimN f n := by
  have : ∀ k, k ≤ n → trimN (ext n f) k = trimN f k := by
    intro k
    induction k with
    | zero => intro _; rfl
    | succ k ih =>
      intro hk
      unfold trimN
      rw [show ext n f k = f k from by simp [ext]; omega, ih (by omega)]
  exact this n (Nat.le_refl _)

theorem ext_zero (f : Nat → Nat) : ext 0 f = fun _ => 0 := by funext i; simp [ext]
theorem ext_upd (k : Nat) (f : Nat → Nat) : upd (ext k f) k (f k) = ext (k + 1) f := by
  funext i
  unfold upd ext
  by_cases h : i = k
  · subst h; simp
  · by_cases h2 : i < k
    · rw [if_neg h, if_pos h2, if_pos (by omega)]
    · rw [if_neg h, if_neg h2, if_neg (by omega)]

theorem onlyd (w : World) (p : Addr) (u : Value) (q : Nat) : Only p.block w ((w.drewN q).setCell p u) := have h := Only.setCell (w.drewN q) p u
  ⟨h.os, h.tape, h.output, h.size, h.block⟩

end Go.Proofs.Ytppfohpgcofkbaa.B

namespace Go.Proofs.Ytppfohpgcofkbaa.B
open Go.RowKit Go.Joins

/-- The carry of a row of the product, and its digits: row i, laid over P. -/
def mulC (F G : Nat → Nat) (i : Nat) (P : Nat → Nat) : Nat → Nat
  | 0 => 0
  | j + 1 => (mulC F G i P j + (P (i + j) + F i * G j)) / 4294967296
def mulD (F G : Nat → Nat) (i : Nat) (P : Nat → Nat) (j : Nat) : Nat := (mulC F G i P j + (P (i + j) + F i * G j)) % 4294967296
/-- The row as far as k. -/
def mulIn (F G : Nat → Nat) (i : Nat) (P : Nat → Nat) (k : Nat) : Nat → Nat := fun x => if i ≤ x ∧ x < i + k then mulD F G i P (x - i) else P x
def mulRow (F G : Nat → Nat) (m i : Nat) (P : Nat → Nat) : Nat → Nat := upd (mulIn F G i P m) (i + m) (mulC F G i P m)
def mulP (F G : Nat → Nat) (m : Nat) : Nat → Nat → Nat
  | 0 => fun _ => 0
  | i + 1 => mulRow F G m i (mulP F G m i)

theorem mul_bound {x y : Nat} (hx : x < 4294967296) (hy : y < 4294967296) : x * y ≤ 18446744065119617025 :=
  Nat.le_trans (Nat.mul_le_mul (show x ≤ 4294967295 by omega) (show y ≤ 4294967295 by omega)) (by decide)
theorem mulC_lt {F G : Nat → Nat} (hF : ∀ i, F i < 4294967296) (hG : ∀ i, G i < 4294967296) (i : Nat) {P : Nat → Nat} (hP : ∀ x, P x < 4294967296) (j : Nat) : mulC F G i P j < 4294967296 := by
  induction j with
  | zero => simp [mulC]
  | succ j ih =>
    unfold mulC
    have h1 := mul_bound (hF i) (hG j)
    have h2 := hP (i + j)
    generalize F i * G j = t at *
    omega
theorem mulD_lt (F G : Nat → Nat) (i : Nat) (P : Nat → Nat) (j : Nat) : mulD F G i P j < 4294967296 := Nat.mod_lt _ (by decide)
theorem mulIn_lt {F G : Nat → Nat} {i : Nat} {P : Nat → Nat} (hP : ∀ x, P x < 4294967296) (k x : Nat) : mulIn F G i P k x < 4294967296 := by
  unfold mulIn; split
  · exact mulD_lt _ _ _ _ _
  · exact hP x
theorem mulP_lt {F G : Nat → Nat} (hF : ∀ i, F i < 4294967296) (hG : ∀ i, G i < 4294967296) (m i x : Nat) : mulP F G m i x < 4294967296 := by
  induction i generalizing x with
  | zero => simp [mulP]
  | succ i ih =>
    show upd _ _ _ x < _
    unfold upd; split
    · exact mulC_lt hF hG i ih m
    · exact mulIn_lt ih m x
theorem mulIn_zero (F G : Nat → Nat) (i : Nat) (P : Nat → Nat) : mulIn F G i P 0 = P := by
  funext x; unfold mulIn; rw [if_neg (by omega)]
theorem mulIn_at (F G : Nat → Nat) (i : Nat) (P : Nat → Nat) (k : Nat) : mulIn F G i P k (i + k) = P (i + k) := by
  unfold mulIn; rw [if_neg (by omega)]
theorem mulIn_upd (F G : Nat → Nat) (i : Nat) (P : Nat → Nat) (k : Nat) : upd (mulIn F G i P k) (i + k) (mulD F G i P k) = mulIn F G i P (k + 1) := by
  funext x
  unfold upd mulIn
  by_cases h : x = i + k
  · subst h; rw [if_pos rfl, if_pos (by omega), show i + k - i = k by omega]
  · rw [if_neg h]
    by_cases h2 : i ≤ x ∧ x < i + k
    · rw [if_pos h2, if_pos (by omega)]
    · rw [if_neg h2, if_neg (by omega)]
theorem mulP_zero (F G : Nat → Nat) (m i x : Nat) (h : i + m ≤ x) (h0 : 0 < i ∨ 0 < x + 1) : mulP F G m i x = 0 := by
  induction i generalizing x with
  | zero => rfl
  | succ i ih =>
    show upd _ _ _ x = 0
    unfold upd
    rw [if_neg (by omega)]
    unfold mulIn
    rw [if_neg (by omega)]
    exact ih x (by omega) (by omega)

end Go.Proofs.Ytppfohpgcofkbaa.B

namespace Go.Proofs.Ytppfohpgcofkbaa.B
open Go.RowKit Go.Joins

def subB (F G : Nat → Nat) : Nat → Nat
  | 0 => 0
  | k + 1 => if F k < G k + subB F G k then 1 else 0
def subD (F G : Nat → Nat) (k : Nat) : Nat := (F k + 4294967296 - G k - subB F G k) % 4294967296

theorem subB_le (F G : Nat → Nat) (k : Nat) : subB F G k ≤ 1 := by
  cases k with
  | zero => simp [subB]
  | succ k => unfold subB; split <;> omega
theorem subD_lt (F G : Nat → Nat) (k : Nat) : subD F G k < 4294967296 := by unfold subD; omega

theorem sub_digit (f g b : Nat) (hf : f < 4294967296) (hg : g < 4294967296) (hb : b ≤ 1) : IntKind.u64.wrap (IntKind.u64.wrap ((f : Int) - (g : Int)) - (b : Int)) % 4294967296 = (((f + 4294967296 - g - b) % 4294967296 : Nat) : Int) := by
  rw [IntKind.wrap_u64, IntKind.wrap_u64]; omega
theorem sub_borrow (f g b : Nat) (hf : f < 4294967296) (hg : g < 4294967296) (hb : b ≤ 1) : IntKind.u64.wrap (IntKind.u64.wrap ((f : Int) - (g : Int)) - (b : Int)) / 9223372036854775808 = ((if f < g + b then 1 else 0 : Nat) : Int) := by
  rw [IntKind.wrap_u64, IntKind.wrap_u64]; split <;> omega

end Go.Proofs.Ytppfohpgcofkbaa.B

namespace Go.Proofs.Ytppfohpgcofkbaa.B
open Go.RowKit Go.Joins

theorem bdraws {B : Nat} {a w : World} (h : Below B a w) (n : Nat) : Below B a (w.drewN n) := ⟨h.os, h.tape, h.output, h.size, h.block⟩

def cmpF (f g : Nat → Nat) : Nat → Int
  | 0 => 0
  | k + 1 => if f k < g k then -1 else if g k < f k then 1 else cmpF f g k

end Go.Proofs.Ytppfohpgcofkbaa.B

namespace Go.Proofs.Ytppfohpgcofkbaa.B
open Go.RowKit Go.Joins

end Go.Proofs.Ytppfohpgcofkbaa.B

namespace Go.Proofs.Ytppfohpgcofkbaa.B
open Go.RowKit Go.Joins

def faultB (m : Bool) (n : Nat) (f : Nat → Nat) : Bool := if n = 0 then m else decide (40 < n) || (f (n - 1) == 0)

theorem ret_bool {a b : Bool} (h : a = b) : Ending.returned (.bool a) = .returned (.bool b) := by rw [h]

set_option maxHeartbeats 400000 in
theorem iFault_any (m : Bool) (v : Value) (n : Nat) (f : Nat → Nat) (w : World) (hL : Lim w v n f) :
    Calls Try.prog 78 #[.agg #[.bool m, v]] w fun e w' => e = .returned (.bool (faultB m n f)) ∧ Below w.heap.size w w' := by
  obtain ⟨a, c, rfl, h1, h2, h3, h4⟩ := id hL
  unfold maxLen at h2
  by_cases hz : n = 0
  · have e : faultB m n f = m := by simp [faultB, hz]
    rw [e]
    clear hL h3 h4 e
    go_enter Try.func78, Try.ntmps78
    go_wp2
    go_ret
    exact ⟨rfl, below_alloc1 _ _⟩
  · by_cases hg : 40 < n
    · have e : faultB m n f = true := by simp [faultB, hz, hg]
      rw [e]
      clear hL h3 h4 e
      go_enter Try.func78, Try.ntmps78
      go_wp2
      go_ret
      exact ⟨rfl, below_alloc1 _ _⟩
    · obtain ⟨k, rfl⟩ : ∃ k, n = k + 1 := ⟨n - 1, by omega⟩
      obtain ⟨b, off, rfl, h5⟩ := h4 (by omega)
      have g := (hL.below (below_alloc1 w (.cells #[.bool m, .slice (some ⟨b, off, none⟩) (k + 1) c] 32)))
      have hbl := block_lt_of_cell (h5 k (by omega))
      have g1 : w.cell? ⟨b, off + k, none⟩ = some (.int .u32 (f k)) := h5 k (by omega)
      have e : faultB m (k + 1) f = (f k == 0) := by simp [faultB]; omega
      rw [e]
      clear hL h3 h4 e g
      go_enter Try.func78, Try.ntmps78
      go_wp2
      go_ret
      exact ⟨ret_bool (by rw [Bool.eq_iff_iff]; simp; omega), below_alloc1 _ _⟩

set_option maxHeartbeats 400000 in
theorem sFault_any (m : Bool) (v : Value) (n : Nat) (f : Nat → Nat) (w : World) (hL : Lim w v n f) :
    Calls Try.prog 40 #[.agg #[.bool m, v]] w fun e w' => e = .returned (.bool (faultB m n f)) ∧ Below w.heap.size w w' := by
  obtain ⟨a, c, rfl, h1, h2, h3, h4⟩ := id hL
  unfold maxLen at h2
  by_cases hz : n = 0
  · have e : faultB m n f = m := by simp [faultB, hz]
    rw [e]
    clear hL h3 h4 e
    go_enter Try.func40, Try.ntmps40
    go_wp2
    go_ret
    exact ⟨ret_bool (by simp), below_alloc1 _ _⟩
  · by_cases hg : 40 < n
    · have e : faultB m n f = true := by simp [faultB, hz, hg]
      rw [e]
      clear hL h3 h4 e
      go_enter Try.func40, Try.ntmps40
      go_wp2
      go_ret
      exact ⟨ret_bool (by simp), below_alloc1 _ _⟩
    · obtain ⟨k, rfl⟩ : ∃ k, n = k + 1 := ⟨n - 1, by omega⟩
      obtain ⟨b, off, rfl, h5⟩ := h4 (by omega)
      have hbl := block_lt_of_cell (h5 k (by omega))
      have g1 : w.cell? ⟨b, off + k, none⟩ = some (.int .u32 (f k)) := h5 k (by omega)
      have e : faultB m (k + 1) f = (f k == 0) := by simp [faultB]; omega
      rw [e]
      clear hL h3 h4 e
      go_enter Try.func40, Try.ntmps40
      go_wp2
      all_goals
        go_ret
        exact ⟨ret_bool (by first | (rw [Bool.eq_iff_iff]; done) | (rw [Bool.eq_iff_iff]; simp; done) | (rw [Bool.eq_iff_iff]; simp; omega)), below_alloc1 _ _⟩

end Go.Proofs.Ytppfohpgcofkbaa.B

namespace Go.Proofs.Ytppfohpgcofkbaa.B
open Go.RowKit Go.Joins

structure Box2 (w w1 : World) (x0 x1 y0 y1 : Value) : Prop where
  a0 : w1.cell? ⟨w.heap.size, 0, none⟩ = some x0
  a1 : w1.cell? ⟨w.heap.size, 1, none⟩ = some x1
  b0 : w1.cell? ⟨w.heap.size + 1, 0, none⟩ = some y0
  b1 : w1.cell? ⟨w.heap.size + 1, 1, none⟩ = some y1
  z : w.heap.size + 1 < w1.heap.size
  bel : Below w.heap.size w w1

theorem Box2.start (w : World) (x0 x1 y0 y1 : Value) (t s : TypeId) : Box2 w ((w.alloc (.cells #[x0, x1] t)).alloc (.cells #[y0, y1] s)) x0 x1 y0 y1 :=
  ⟨by simp, by simp, by simp, by simp, by simp, below_alloc2 _ _ _⟩

theorem Box2.next {w w1 w2 : World} {x0 x1 y0 y1 : Value} (h : Box2 w w1 x0 x1 y0 y1) (hb : Below w1.heap.size w1 w2) : Box2 w w2 x0 x1 y0 y1 :=
  have hz := h.z
  ⟨(hb.cell (p := ⟨w.heap.size, 0, none⟩) (by simp; omega)).trans h.a0, (hb.cell (p := ⟨w.heap.size, 1, none⟩) (by simp; omega)).trans h.a1,
   (hb.cell (p := ⟨w.heap.size + 1, 0, none⟩) (by simp; omega)).trans h.b0, (hb.cell (p := ⟨w.heap.size + 1, 1, none⟩) (by simp; omega)).trans h.b1,
   by have := hb.size; omega, h.bel.trans (hb.mono (by omega))⟩

theorem Box2.draw {w w1 : World} {x0 x1 y0 y1 : Value} (h : Box2 w w1 x0 x1 y0 y1) : Box2 w w1.drew x0 x1 y0 y1 := ⟨h.a0, h.a1, h.b0, h.b1, h.z, h.bel.drew⟩

theorem Lim.drew {w v n f} (h : Lim w v n f) : Lim w.drew v n f := h

def cmpB (m : Bool) (n : Nat) (f : Nat → Nat) (m' : Bool) (n' : Nat) (f' : Nat → Nat) : Int :=
  if faultB m n f = true ∨ faultB m' n' f' = true then -2 else if m = m' then (if m = true then -(cmpF (ext n f) (ext n' f') (max n n')) else cmpF (ext n f) (ext n' f') (max n n')) else if m = true then -1 else 1

theorem cmpF_neg (f g : Nat → Nat) (k : Nat) : cmpF g f k = -cmpF f g k := by
  induction k with
  | zero => rfl
  | succ k ih =>
    unfold cmpF
    by_cases h1 : f k < g k
    · have h2 : ¬ g k < f k := by omega
      simp [h1, h2]
    · by_cases h2 : g k < f k
      · simp [h1, h2]
      · simp [h1, h2, ih]

theorem cmpF_range (f g : Nat → Nat) (k : Nat) : -1 ≤ cmpF f g k ∧ cmpF f g k ≤ 1 := by
  induction k with
  | zero => simp [cmpF]
  | succ k ih =>
    unfold cmpF
    split
    · omega
    · split <;> omega

theorem faultB_le {m n f} (h : faultB m n f = false) : n ≤ 40 := by
  unfold faultB at h
  by_cases hz : n = 0
  · omega
  · simp [hz] at h; omega

end Go.Proofs.Ytppfohpgcofkbaa.B

namespace Go.Proofs.Ytppfohpgcofkbaa.B

/-- The number that n limbs say. -/
def val (f : Nat → Nat) : Nat → Nat
  | 0 => 0
  | n + 1 => val f n + f n * 4294967296 ^ n

theorem pow_pos' (n : Nat) : 0 < 4294967296 ^ n := Nat.pos_of_ne_zero (by simp)
theorem pow_s (n : Nat) : 4294967296 ^ (n + 1) = 4294967296 * 4294967296 ^ n := by rw [Nat.pow_succ, Nat.mul_comm]

theorem val_lt {f : Nat → Nat} (hf : ∀ i, f i < 4294967296) (n : Nat) : val f n < 4294967296 ^ n := by
  induction n with
  | zero => simp [val]
  | succ n ih =>
    unfold val
    rw [pow_s]
    have h := hf n
    have h2 : f n * 4294967296 ^ n ≤ 4294967295 * 4294967296 ^ n := Nat.mul_le_mul_right _ (by omega)
    generalize 4294967296 ^ n = p at *
    generalize f n * p = q at *
    omega

theorem val_congr {f g : Nat → Nat} {n : Nat} (h : ∀ i, i < n → f i = g i) : val f n = val g n := by
  induction n with
  | zero => rfl
  | succ n ih => unfold val; rw [ih (fun i hi => h i (by omega)), h n (by omega)]

theorem val_zeros {f : Nat → Nat} {k n : Nat} (hk : k ≤ n) (h : ∀ i, k ≤ i → i < n → f i = 0) : val f n = val f k := by
  induction n with
  | zero => have : k = 0 := by omega
            subst this; rfl
  | succ n ih =>
    by_cases e : k = n + 1
    · subst e; rfl
    · show val f n + f n * 4294967296 ^ n = val f k
      rw [h n (by omega) (by omega), Nat.zero_mul, Nat.add_zero]
      exact ih (by omega) (fun i h1 h2 => h i h1 (by omega))

theorem val_inj {f g : Nat → Nat} (hf : ∀ i, f i < 4294967296) (hg : ∀ i, g i < 4294967296) : ∀ n, val f n = val g n → ∀ i, i < n → f i = g i := by
  intro n
  induction n with
  | zero => intro _ i hi; omega
  | succ n ih =>
    intro h i hi
    unfold val at h
    have h1 := val_lt hf n
    have h2 := val_lt hg n
    have hp := pow_pos' n
    have e : f n = g n := by
      rcases Nat.lt_trichotomy (f n) (g n) with hlt | heq | hgt
      · exfalso
        have : (f n + 1) * 4294967296 ^ n ≤ g n * 4294967296 ^ n := Nat.mul_le_mul_right _ (by omega)
        rw [Nat.add_mul, Nat.one_mul] at this
        generalize 4294967296 ^ n = p at *
        omega
      · exact heq
      · exfalso
        have : (g n + 1) * 4294967296 ^ n ≤ f n * 4294967296 ^ n := Nat.mul_le_mul_right _ (by omega)
        rw [Nat.add_mul, Nat.one_mul] at this
        generalize 4294967296 ^ n = p at *
        omega
    by_cases hin : i = n
    · rw [hin]; exact e
    · refine ih ?_ i (by omega)
      rw [e] at h
      omega

theorem trimN_zero (f : Nat → Nat) (n i : Nat) (h1 : trimN f n ≤ i) (h2 : i < n) : f i = 0 := by
  induction n with
  | zero => omega
  | succ n ih =>
    unfold trimN at h1
    by_cases h : f n = 0
    · rw [if_pos h] at h1
      by_cases e : i = n
      · rw [e]; exact h
      · exact ih h1 (by omega)
    · rw [if_neg h] at h1; omega
theorem trimN_top (f : Nat → Nat) (n : Nat) (h : 0 < trimN f n) : f (trimN f n - 1) ≠ 0 := by
  induction n with
  | zero => simp [trimN] at h
  | succ n ih =>
    unfold trimN at h ⊢
    by_cases e : f n = 0
    · rw [if_pos e] at h ⊢; exact ih h
    · rw [if_neg e]; exact e
theorem val_trim (f : Nat → Nat) (n : Nat) : val f (trimN f n) = val f n := (val_zeros (trimN_le f n) (fun i h1 h2 => trimN_zero f n i h1 h2)).symm

/-- Limbs without a 0 on top: the number says how many there are, and which. -/
theorem val_top {f : Nat → Nat} {n : Nat} (h : f n ≠ 0) : 4294967296 ^ n ≤ val f (n + 1) := by
  unfold val
  have : 1 * 4294967296 ^ n ≤ f n * 4294967296 ^ n := Nat.mul_le_mul_right _ (by omega)
  omega
theorem norm_unique {f g : Nat → Nat} (hf : ∀ i, f i < 4294967296) (hg : ∀ i, g i < 4294967296) {n m : Nat} (hn : 0 < n → f (n - 1) ≠ 0) (hm : 0 < m → g (m - 1) ≠ 0) (h : val f n = val g m) : n = m ∧ ∀ i, i < n → f i = g i := by
  have key : ∀ {f g : Nat → Nat} {n m : Nat}, (∀ i, g i < 4294967296) → (0 < n → f (n - 1) ≠ 0) → val f n = val g m → ¬ m < n := by
    intro f g n m hg hn h hlt
    obtain ⟨k, rfl⟩ : ∃ k, n = k + 1 := ⟨n - 1, by omega⟩
    have h1 := val_top (hn (by omega))
    have h2 := val_lt hg m
    have h3 : 4294967296 ^ m ≤ 4294967296 ^ k := Nat.pow_le_pow_right (by decide) (by omega)
    simp only [Nat.add_sub_cancel] at h1
    omega
  have e : n = m := by
    have h1 := key hg hn h
    have h2 := key hf hm h.symm
    omega
  subst e
  exact ⟨rfl, val_inj hf hg n h⟩

theorem val_add (F G : Nat → Nat) (k : Nat) : val (addD F G) k + addC F G k * 4294967296 ^ k = val F k + val G k := by
  induction k with
  | zero => simp [val, addC]
  | succ k ih =>
    have e : addC F G (k + 1) * 4294967296 + addD F G k = addC F G k + (F k + G k) := by
      show (addC F G k + (F k + G k)) / 4294967296 * 4294967296 + (addC F G k + (F k + G k)) % 4294967296 = _
      omega
    have e2 := congrArg (· * 4294967296 ^ k) e
    simp only [Nat.add_mul] at e2
    unfold val
    rw [pow_s]
    rw [show addC F G (k + 1) * (4294967296 * 4294967296 ^ k) = addC F G (k + 1) * 4294967296 * 4294967296 ^ k from by rw [Nat.mul_assoc]]
    omega

theorem val_sub (F G : Nat → Nat) (hF : ∀ i, F i < 4294967296) (hG : ∀ i, G i < 4294967296) (k : Nat) : val (subD F G) k + val G k = val F k + subB F G k * 4294967296 ^ k := by
  induction k with
  | zero => simp [val, subB]
  | succ k ih =>
    have hb := subB_le F G k
    have h1 := hF k
    have h2 := hG k
    have e : subD F G k + G k + subB F G k = F k + subB F G (k + 1) * 4294967296 := by
      show (F k + 4294967296 - G k - subB F G k) % 4294967296 + G k + subB F G k = F k + (if F k < G k + subB F G k then 1 else 0) * 4294967296
      split <;> omega
    have e2 := congrArg (· * 4294967296 ^ k) e
    simp only [Nat.add_mul] at e2
    unfold val
    rw [pow_s]
    rw [show subB F G (k + 1) * (4294967296 * 4294967296 ^ k) = subB F G (k + 1) * 4294967296 * 4294967296 ^ k from by rw [Nat.mul_assoc]]
    omega

theorem cmpF_val {F G : Nat → Nat} (hF : ∀ i, F i < 4294967296) (hG : ∀ i, G i < 4294967296) (k : Nat) : (cmpF F G k = -1 ↔ val F k < val G k) ∧ (cmpF F G k = 1 ↔ val G k < val F k) ∧ (cmpF F G k = 0 ↔ val F k = val G k) := by
  induction k with
  | zero => simp [cmpF, val]
  | succ k ih =>
    have h1 := val_lt hF k
    have h2 := val_lt hG k
    unfold cmpF val
    by_cases hlt : F k < G k
    · have : (F k + 1) * 4294967296 ^ k ≤ G k * 4294967296 ^ k := Nat.mul_le_mul_right _ (by omega)
      rw [Nat.add_mul, Nat.one_mul] at this
      rw [if_pos hlt]
      generalize 4294967296 ^ k = p at *
      omega
    · by_cases hgt : G k < F k
      · have : (G k + 1) * 4294967296 ^ k ≤ F k * 4294967296 ^ k := Nat.mul_le_mul_right _ (by omega)
        rw [Nat.add_mul, Nat.one_mul] at this
        rw [if_neg hlt, if_pos hgt]
        generalize 4294967296 ^ k = p at *
        omega
      · have e : F k = G k := by omega
        rw [if_neg hlt, if_neg hgt, e]
        omega

theorem val_mulIn (F G : Nat → Nat) (i : Nat) (P : Nat → Nat) (k : Nat) : val (mulIn F G i P k) (i + k) + mulC F G i P k * 4294967296 ^ (i + k) = val P (i + k) + F i * 4294967296 ^ i * val G k := by
  induction k with
  | zero => rw [mulIn_zero]; simp [mulC, val]
  | succ k ih =>
    have e : mulC F G i P (k + 1) * 4294967296 + mulD F G i P k = mulC F G i P k + (P (i + k) + F i * G k) := by
      show (mulC F G i P k + (P (i + k) + F i * G k)) / 4294967296 * 4294967296 + (mulC F G i P k + (P (i + k) + F i * G k)) % 4294967296 = _
      omega
    have h0 : val (mulIn F G i P (k + 1)) (i + k) = val (mulIn F G i P k) (i + k) := val_congr (fun x hx => by
      rw [← mulIn_upd]; unfold upd; rw [if_neg (by omega)])
    have h1 : mulIn F G i P (k + 1) (i + k) = mulD F G i P k := by rw [← mulIn_upd]; unfold upd; rw [if_pos rfl]
    show val (mulIn F G i P (k + 1)) (i + k + 1) + _ = val P (i + k + 1) + _
    unfold val
    rw [h0, h1]
    have e2 := congrArg (· * 4294967296 ^ (i + k)) e
    simp only [Nat.add_mul] at e2
    rw [show i + (k + 1) = i + k + 1 from rfl, pow_s]
    rw [show mulC F G i P (k + 1) * (4294967296 * 4294967296 ^ (i + k)) = mulC F G i P (k + 1) * 4294967296 * 4294967296 ^ (i + k) from by rw [Nat.mul_assoc]]
    rw [Nat.mul_add]
    have e3 : F i * 4294967296 ^ i * (G k * 4294967296 ^ k) = F i * G k * 4294967296 ^ (i + k) := by
      rw [Nat.pow_add]
      simp only [Nat.mul_assoc, Nat.mul_left_comm]
    rw [e3]
    omega

theorem val_mulP {F G : Nat → Nat} (m : Nat) (i : Nat) : val (mulP F G m i) (i + m) = val F i * val G m := by
  induction i with
  | zero =>
    rw [show val F 0 = 0 from rfl, Nat.zero_mul, Nat.zero_add]
    exact val_zeros (f := mulP F G m 0) (Nat.zero_le m) (fun _ _ _ => rfl)
  | succ i ih =>
    have h := val_mulIn F G i (mulP F G m i) m
    show val (mulRow F G m i (mulP F G m i)) (i + 1 + m) = (val F i + F i * 4294967296 ^ i) * val G m
    rw [show i + 1 + m = i + m + 1 from by omega, Nat.add_mul, ← ih, ← h]
    show val (mulRow F G m i (mulP F G m i)) (i + m) + mulRow F G m i (mulP F G m i) (i + m) * 4294967296 ^ (i + m) = _
    have h1 : mulRow F G m i (mulP F G m i) (i + m) = mulC F G i (mulP F G m i) m := by unfold mulRow upd; rw [if_pos rfl]
    have h2 : val (mulRow F G m i (mulP F G m i)) (i + m) = val (mulIn F G i (mulP F G m i) m) (i + m) := val_congr (fun x hx => by
      unfold mulRow upd; rw [if_neg (by omega)])
    rw [h1, h2]

end Go.Proofs.Ytppfohpgcofkbaa.B
