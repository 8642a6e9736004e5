import Derived.Test.YtpcnmolncoaddaaRows
import Derived.WalkKit
import Derived.WalkSpells
import Derived.WalkLawsBesides
import Derived.Deep.OwnRows
import Derived.Deep.QuietTactic
import Derived.BigQuiet
import Derived.Deep.RegionWith
import Derived.Lib.SmallJoins
namespace Go.Proofs.Ytpcnmolncoaddaa
open Go.RowKit Go.Joins

/-- The slice value reads as the n limbs f 0, f 1, .. -/
def Lim (w : World) (v : Value) (n : Nat) (f : Nat → Nat) : Prop :=
  ∃ a c, v = .slice a n c ∧ n ≤ c ∧ c ≤ maxLen ∧ (∀ i, i < n → f i < 4294967296) ∧
    (0 < n → ∃ b off, a = some ⟨b, off, none⟩ ∧ ∀ i, i < n → w.cell? ⟨b, off + i, none⟩ = some (.int .u32 (f i)))

/-- The same, in a block from B on that may be written. -/
def Own (B : Nat) (w : World) (v : Value) (n : Nat) (f : Nat → Nat) : Prop :=
  ∃ a c, v = .slice a n c ∧ n ≤ c ∧ (c ≤ maxLen ∧ (a = none → c = 0)) ∧ (∀ i, i < n → f i < 4294967296) ∧
    (0 < n → ∃ b off, a = some ⟨b, off, none⟩ ∧ B ≤ b ∧ (∀ i, i < n → w.cell? ⟨b, off + i, none⟩ = some (.int .u32 (f i))) ∧ ∀ i, i < n → w.frozen? ⟨b, off + i, none⟩ = false)

theorem Own.lim {B w v n f} (h : Own B w v n f) : Lim w v n f := by
  obtain ⟨a, c, rfl, h1, h2, h3, h4⟩ := h
  refine ⟨a, c, rfl, h1, h2.1, h3, fun hn => ?_⟩
  obtain ⟨b, off, rfl, _, h5, _⟩ := h4 hn
  exact ⟨b, off, rfl, h5⟩

/-- A slice value that is nil has no room. -/
def NilOk (v : Value) : Prop := ∀ n c, v = .slice none n c → c = 0

theorem Own.nil {B w v n f} (h : Own B w v n f) : NilOk v := by
  obtain ⟨a, c, rfl, h1, h2, h3, h4⟩ := h
  intro n' c' e
  simp only [Value.slice.injEq] at e
  obtain ⟨e1, e2, e3⟩ := e
  have := h2.2 e1
  omega

theorem Lim.below {w w' v n f} (h : Lim w v n f) (hb : Below w.heap.size w w') : Lim w' v n f := by
  obtain ⟨a, c, rfl, h1, h2, h3, h4⟩ := h
  refine ⟨a, c, rfl, h1, h2, h3, fun hn => ?_⟩
  obtain ⟨b, off, rfl, h5⟩ := h4 hn
  exact ⟨b, off, rfl, fun i hi => (hb.cell (block_lt_of_cell (h5 i hi))).trans (h5 i hi)⟩

theorem Try.info60 : (Try.prog.info? 60).map (fun i => (i.zero, i.size, i.bytes)) = some (some (.int .u32 0), 1, 4) := by kernel_rfl

theorem ret_int {k : IntKind} {a b : Int} (h : a = b) : Ending.returned (.int k a) = .returned (.int k b) := by rw [h]

set_option maxHeartbeats 400000 in
theorem szU_any (a : Option Addr) (n c : Nat) (left : Int) (w : World) (h0 : 0 ≤ left) (h1 : left ≤ 1048576) (hn : n ≤ 9223372036854775807) :
    Calls Try.prog 73 #[.slice a n c, .int .i64 left] w fun e w' => e = .returned (.int .i64 (if left < n then -1 else left - n)) ∧ w' = w := by
  by_cases h : left < n
  · go_enter Try.func73, Try.ntmps73
    go_wp2
    go_ret
    exact ⟨rfl, rfl⟩
  · go_enter Try.func73, Try.ntmps73
    go_wp2
    go_ret
    exact ⟨rfl, rfl⟩


/-- A block of n limbs of which the first k are f's. -/
def Half (w : World) (B : Nat) (n k : Nat) (f : Nat → Nat) : Prop :=
  ∃ cs : Array Value, w.heap[B]? = some (.cells cs 60 (0, 0)) ∧ cs.size = n ∧ ∀ i, i < k → cs[i]? = some (.int .u32 (f i))

theorem Half.own {w B B' n k f} (h : Half w B n k f) (hk : n = k) (hB : B' ≤ B) (hn : n ≤ maxLen) (hf : ∀ i, i < n → f i < 4294967296) : Own B' w (.slice (some ⟨B, 0, none⟩) n n) n f := by
  subst hk
  obtain ⟨cs, h1, h2, h3⟩ := h
  refine ⟨_, _, rfl, Nat.le_refl _, ⟨hn, fun e => by cases e⟩, hf, fun _ => ⟨B, 0, rfl, hB, fun i hi => ?_, fun i _ => unfrozen_of_block h1 _⟩⟩
  rw [cell_of_block h1, Nat.zero_add]; exact h3 i hi

theorem Half.cell {w B n k f} (h : Half w B n k f) (j : Nat) (hj : j < n) : ∃ u, w.cell? ⟨B, j, none⟩ = some u := by
  obtain ⟨cs, h1, h2, _⟩ := h
  rw [cell_of_block h1]; exact ⟨cs[j], by simp [h2, hj]⟩
theorem Half.frozen {w B n k f} (h : Half w B n k f) (j : Nat) : w.frozen? ⟨B, j, none⟩ = false := by
  obtain ⟨cs, h1, h2, _⟩ := h
  exact unfrozen_of_block h1 _
theorem Half.set {w B n k f} (h : Half w B n k f) (hk : k < n) : Half (w.setCell ⟨B, k, none⟩ (.int .u32 (f k))) B n (k + 1) f := by
  obtain ⟨cs, h1, h2, h3⟩ := h
  refine ⟨_, block_setCell h1 _, by simp [h2], fun i hi => ?_⟩
  by_cases e : i = k
  · subst e; simp [h2, hk]
  · rw [Array.getElem?_setIfInBounds_ne (by omega)]; exact h3 i (by omega)

set_option maxHeartbeats 400000 in
theorem toU_some (b off n c : Nat) (f : Nat → Nat) (w : World) (hn : n ≤ 1048576) (hp : 0 < n)
    (hc : ∀ i, i < n → w.cell? ⟨b, off + i, none⟩ = some (.int .u32 (f i))) :
    Calls Try.prog 74 #[.slice (some ⟨b, off, none⟩) n c] w fun e w' => e = .returned (.slice (some ⟨w.heap.size, 0, none⟩) n n) ∧ Half w' w.heap.size n n f ∧ Below w.heap.size w w' := by
  have hbl : b < w.heap.size := block_lt_of_cell (hc 0 hp)
  have hmk := run_make_row' (P := Try.prog) 23 60 (.int .u32 0) 4 Try.underlying23 Try.info60 rfl .i64 .i64 n (by omega) (by omega)
  go_enter Try.func74, Try.ntmps74
  go_wp2
  go_loopw [4] (fun i wr => ∃ k : Nat, k ≤ n ∧ i = .int .i64 k ∧ Half wr w.heap.size n k f ∧ Below w.heap.size w wr) (fun i _ => n - (intOf i).toNat)
  case atStart =>
    exact ⟨0, Nat.zero_le _, rfl, ⟨_, heap_alloc_new _ _, size_madeCells _ _, fun i hi => by omega⟩, (Below.refl _ _).alloc (Nat.le_refl _) _⟩
  case round =>
    obtain ⟨k, hk, rfl, hh, hbw⟩ := hrel
    by_cases hlt : k < n
    · have g1 : wr.cell? ⟨b, off + k, none⟩ = some (.int .u32 (f k)) := (hbw.cell (by exact hbl)).trans (hc k hlt)
      obtain ⟨u, g2⟩ := hh.cell k hlt
      have g3 := hh.frozen k
      have hset := hh.set hlt
      clear hc
      go_wp2
      go_roundw
      case rel => exact ⟨k + 1, by omega, by go_num, hset, hbw.setCell (by exact Nat.le_refl _) _⟩
      case measure => simp [intOf]; omega
    · have : k = n := by omega
      subst this
      go_wp2
      go_ret
      exact ⟨rfl, hh, hbw⟩

set_option maxHeartbeats 400000 in
theorem toU_none (a : Option Addr) (n c : Nat) (f : Nat → Nat) (w : World) (hz : n ≤ 0) :
    Calls Try.prog 74 #[.slice a n c] w fun e w' => e = .returned (.slice (some ⟨w.heap.size, 0, none⟩) n n) ∧ Half w' w.heap.size n n f ∧ Below w.heap.size w w' := by
  have hmk := run_make_row' (P := Try.prog) 23 60 (.int .u32 0) 4 Try.underlying23 Try.info60 rfl .i64 .i64 n (by omega) (by omega)
  go_enter Try.func74, Try.ntmps74
  go_wp2
  go_loopw [4] (fun i wr => i = .int .i64 0 ∧ Half wr w.heap.size n n f ∧ Below w.heap.size w wr) (fun i _ => 0)
  case atStart =>
    exact ⟨rfl, ⟨_, heap_alloc_new _ _, size_madeCells _ _, fun i hi => by omega⟩, (Below.refl _ _).alloc (Nat.le_refl _) _⟩
  case round =>
    obtain ⟨rfl, hh, hbw⟩ := hrel
    go_wp2
    go_ret
    exact ⟨rfl, hh, hbw⟩

theorem toU_any {v : Value} {n : Nat} {f : Nat → Nat} {w : World} (hL : Lim w v n f) (hn : n ≤ 1048576) :
    Calls Try.prog 74 #[v] w fun e w' => e = .returned (.slice (some ⟨w.heap.size, 0, none⟩) n n) ∧ Half w' w.heap.size n n f ∧ Below w.heap.size w w' := by
  obtain ⟨a, c, rfl, h1, h2, h3, h4⟩ := hL
  rcases Nat.eq_zero_or_pos n with h0 | hp
  · exact toU_none a n c f w (by omega)
  · obtain ⟨b, off, rfl, h5⟩ := h4 hp
    exact toU_some b off n c f w hn hp h5

set_option maxHeartbeats 400000 in
theorem eqU_some (b off b' off' n c c' : Nat) (f : Nat → Nat) (w : World) (hn : n ≤ 1048576)
    (hc : ∀ i, i < n → w.cell? ⟨b, off + i, none⟩ = some (.int .u32 (f i))) (hc' : ∀ i, i < n → w.cell? ⟨b', off' + i, none⟩ = some (.int .u32 (f i))) :
    Calls Try.prog 75 #[.slice (some ⟨b, off, none⟩) n c, .slice (some ⟨b', off', none⟩) n c'] w fun e w' => e = .returned (.bool true) ∧ ∃ q, w' = w.drewN q := by
  go_enter Try.func75, Try.ntmps75
  go_wp2
  go_loopw [5] (fun i wr => ∃ k q : Nat, k ≤ n ∧ i = .int .i64 k ∧ wr = w.drewN q) (fun i _ => n - (intOf i).toNat)
  case atStart => exact ⟨0, 0, Nat.zero_le _, rfl, rfl⟩
  case round =>
    obtain ⟨k, q, hk, rfl, rfl⟩ := hrel
    by_cases hlt : k < n
    · have g1 := hc k hlt
      have g2 := hc' k hlt
      clear hc hc'
      go_wp2
      go_quiet (fail)
      go_wp2
      go_roundw
      case rel => exact ⟨k + 1, _, by omega, by go_num, rfl⟩
      case measure => simp [intOf]; omega
    · go_wp2
      go_ret
      exact ⟨rfl, q, rfl⟩

set_option maxHeartbeats 400000 in
theorem eqU_none (a a' : Option Addr) (n c c' : Nat) (w : World) (hz : n ≤ 0) :
    Calls Try.prog 75 #[.slice a n c, .slice a' n c'] w fun e w' => e = .returned (.bool true) ∧ ∃ q, w' = w.drewN q := by
  go_enter Try.func75, Try.ntmps75
  go_wp2
  go_loopw [5] (fun i wr => i = .int .i64 0 ∧ wr = w) (fun _ _ => 0)
  case atStart => exact ⟨rfl, rfl⟩
  case round =>
    obtain ⟨rfl, rfl⟩ := hrel
    go_wp2
    go_ret
    exact ⟨rfl, 0, rfl⟩

theorem eqU_any {v v' : Value} {n : Nat} {f g : Nat → Nat} {w : World} (hL : Lim w v n f) (hL' : Lim w v' n g) (hn : n ≤ 1048576) (he : ∀ i, i < n → f i = g i) :
    Calls Try.prog 75 #[v, v'] w fun e w' => e = .returned (.bool true) ∧ ∃ q, w' = w.drewN q := by
  obtain ⟨a, c, rfl, h1, h2, h3, h4⟩ := hL
  obtain ⟨a', c', rfl, h1', h2', h3', h4'⟩ := hL'
  rcases Nat.eq_zero_or_pos n with h0 | hp
  · exact eqU_none a a' n c c' w (by omega)
  · obtain ⟨b, off, rfl, h5⟩ := h4 hp
    obtain ⟨b', off', rfl, h5'⟩ := h4' hp
    exact eqU_some b off b' off' n c c' f w hn h5 (fun i hi => by rw [he i hi]; exact h5' i hi)

end Go.Proofs.Ytpcnmolncoaddaa
