import Derived.Test.YtppfohpgcofkbaaRows
import Derived.WalkKit
import Derived.WalkSpells
import Derived.WalkLawsBesides
import Derived.Deep.OwnRows
import Derived.Deep.QuietTactic
import Derived.BigQuiet
import Derived.Deep.RegionWith
import Derived.Lib.SmallJoins
import Derived.Laws.CopyOwn
import Derived.Laws.Tables
import Derived.Laws.Rows
import Derived.Laws.AppendOwnNone
namespace Go.Proofs.Ytppfohpgcofkbaa.B
open Go.RowKit Go.Joins

/-- The slice value reads as the n limbs f 0, f 1, .. -/
def Lim (w : World) (v : Value) (n : Nat) (f : Nat → Nat) : Prop :=
  ∃ a c, v = .slice a n c ∧ n ≤ c ∧ c ≤ maxLen ∧ (∀ i, i < n → f i < 4294967296) ∧
    (0 < n → ∃ b off, a = some ⟨b, off, none⟩ ∧ ∀ i, i < n → w.cell? ⟨b, off + i, none⟩ = some (.int .u32 (f i)))

/-- The same, in a block from B on that may be written. -/
def Own (B : Nat) (w : World) (v : Value) (n : Nat) (f : Nat → Nat) : Prop :=
  ∃ a c, v = .slice a n c ∧ n ≤ c ∧ (c ≤ maxLen ∧ (a = none → c = 0)) ∧ (∀ i, i < n → f i < 4294967296) ∧
    (0 < n → ∃ b off, a = some ⟨b, off, none⟩ ∧ B ≤ b ∧ (∀ i, i < n → w.cell? ⟨b, off + i, none⟩ = some (.int .u32 (f i))) ∧ ∀ i, i < n → w.frozen? ⟨b, off + i, none⟩ = false)

theorem Own.lim {B w v n f} (h : Own B w v n f) : Lim w v n f := by
  obtain ⟨a, c, rfl, h1, h2, h3, h4⟩ := h
  refine ⟨a, c, rfl, h1, h2.1, h3, fun hn => ?_⟩
  obtain ⟨b, off, rfl, _, h5, _⟩ := h4 hn
  exact ⟨b, off, rfl, h5⟩

/-- A slice value that is nil has no room. -/
def NilOk (v : Value) : Prop := ∀ n c, v = .slice none n c → c = 0

theorem Own.nil {B w v n f} (h : Own B w v n f) : NilOk v := by
  obtain ⟨a, c, rfl, h1, h2, h3, h4⟩ := h
  intro n' c' e
  simp only [Value.slice.injEq] at e
  obtain ⟨e1, e2, e3⟩ := e
  have := h2.2 e1
  omega

theorem Lim.below {w w' v n f} (h : Lim w v n f) (hb : Below w.heap.size w w') : Lim w' v n f := by
  obtain ⟨a, c, rfl, h1, h2, h3, h4⟩ := h
  refine ⟨a, c, rfl, h1, h2, h3, fun hn => ?_⟩
  obtain ⟨b, off, rfl, h5⟩ := h4 hn
  exact ⟨b, off, rfl, fun i hi => (hb.cell (block_lt_of_cell (h5 i hi))).trans (h5 i hi)⟩

theorem Try.info91 : (Try.prog.info? 91).map (fun i => (i.zero, i.size, i.bytes)) = some (some (.int .u32 0), 1, 4) := by kernel_rfl

theorem ret_int {k : IntKind} {a b : Int} (h : a = b) : Ending.returned (.int k a) = .returned (.int k b) := by rw [h]

set_option maxHeartbeats 400000 in
theorem szU_any (a : Option Addr) (n c : Nat) (left : Int) (w : World) (h0 : 0 ≤ left) (h1 : left ≤ 1048576) (hn : n ≤ 9223372036854775807) :
    Calls Try.prog 26 #[.slice a n c, .int .i64 left] w fun e w' => e = .returned (.int .i64 (if left < n then -1 else left - n)) ∧ w' = w := by
  by_cases h : left < n
  · go_enter Try.func26, Try.ntmps26
    go_wp2
    go_ret
    exact ⟨rfl, rfl⟩
  · go_enter Try.func26, Try.ntmps26
    go_wp2
    go_ret
    exact ⟨rfl, rfl⟩


/-- A block of n limbs of which the first k are f's. -/
def Half (w : World) (B : Nat) (n k : Nat) (f : Nat → Nat) : Prop :=
  ∃ cs : Array Value, w.heap[B]? = some (.cells cs 91 (0, 0)) ∧ cs.size = n ∧ ∀ i, i < k → cs[i]? = some (.int .u32 (f i))

theorem Half.own {w B B' n k f} (h : Half w B n k f) (hk : n = k) (hB : B' ≤ B) (hn : n ≤ maxLen) (hf : ∀ i, i < n → f i < 4294967296) : Own B' w (.slice (some ⟨B, 0, none⟩) n n) n f := by
  subst hk
  obtain ⟨cs, h1, h2, h3⟩ := h
  refine ⟨_, _, rfl, Nat.le_refl _, ⟨hn, fun e => by cases e⟩, hf, fun _ => ⟨B, 0, rfl, hB, fun i hi => ?_, fun i _ => unfrozen_of_block h1 _⟩⟩
  rw [cell_of_block h1, Nat.zero_add]; exact h3 i hi

theorem Half.cell {w B n k f} (h : Half w B n k f) (j : Nat) (hj : j < n) : ∃ u, w.cell? ⟨B, j, none⟩ = some u := by
  obtain ⟨cs, h1, h2, _⟩ := h
  rw [cell_of_block h1]; exact ⟨cs[j], by simp [h2, hj]⟩
theorem Half.frozen {w B n k f} (h : Half w B n k f) (j : Nat) : w.frozen? ⟨B, j, none⟩ = false := by
  obtain ⟨cs, h1, h2, _⟩ := h
  exact unfrozen_of_block h1 _
theorem Half.set {w B n k f} (h : Half w B n k f) (hk : k < n) : Half (w.setCell ⟨B, k, none⟩ (.int .u32 (f k))) B n (k + 1) f := by
  obtain ⟨cs, h1, h2, h3⟩ := h
  refine ⟨_, block_setCell h1 _, by simp [h2], fun i hi => ?_⟩
  by_cases e : i = k
  · subst e; simp [h2, hk]
  · rw [Array.getElem?_setIfInBounds_ne (by omega)]; exact h3 i (by omega)

set_option maxHeartbeats 400000 in
theorem toU_some (b off n c : Nat) (f : Nat → Nat) (w : World) (hn : n ≤ 1048576) (hp : 0 < n)
    (hc : ∀ i, i < n → w.cell? ⟨b, off + i, none⟩ = some (.int .u32 (f i))) :
    Calls Try.prog 32 #[.slice (some ⟨b, off, none⟩) n c] w fun e w' => e = .returned (.slice (some ⟨w.heap.size, 0, none⟩) n n) ∧ Half w' w.heap.size n n f ∧ Below w.heap.size w w' := by
  have hbl : b < w.heap.size := block_lt_of_cell (hc 0 hp)
  have hmk := run_make_row' (P := Try.prog) 22 91 (.int .u32 0) 4 Try.underlying22 Try.info91 rfl .i64 .i64 n (by omega) (by omega)
  go_enter Try.func32, Try.ntmps32
  go_wp2
  go_loopw [4] (fun i wr => ∃ k : Nat, k ≤ n ∧ i = .int .i64 k ∧ Half wr w.heap.size n k f ∧ Below w.heap.size w wr) (fun i _ => n - (intOf i).toNat)
  case atStart =>
    exact ⟨0, Nat.zero_le _, rfl, ⟨_, heap_alloc_new _ _, size_madeCells _ _, fun i hi => by omega⟩, (Below.refl _ _).alloc (Nat.le_refl _) _⟩
  case round =>
    obtain ⟨k, hk, rfl, hh, hbw⟩ := hrel
    by_cases hlt : k < n
    · have g1 : wr.cell? ⟨b, off + k, none⟩ = some (.int .u32 (f k)) := (hbw.cell (by exact hbl)).trans (hc k hlt)
      obtain ⟨u, g2⟩ := hh.cell k hlt
      have g3 := hh.frozen k
      have hset := hh.set hlt
      clear hc
      go_wp2
      go_roundw
      case rel => exact ⟨k + 1, by omega, by go_num, hset, hbw.setCell (by exact Nat.le_refl _) _⟩
      case measure => simp [intOf]; omega
    · have : k = n := by omega
      subst this
      go_wp2
      go_ret
      exact ⟨rfl, hh, hbw⟩

set_option maxHeartbeats 400000 in
theorem toU_none (a : Option Addr) (n c : Nat) (f : Nat → Nat) (w : World) (hz : n ≤ 0) :
    Calls Try.prog 32 #[.slice a n c] w fun e w' => e = .returned (.slice (some ⟨w.heap.size, 0, none⟩) n n) ∧ Half w' w.heap.size n n f ∧ Below w.heap.size w w' := by
  have hmk := run_make_row' (P := Try.prog) 22 91 (.int .u32 0) 4 Try.underlying22 Try.info91 rfl .i64 .i64 n (by omega) (by omega)
  go_enter Try.func32, Try.ntmps32
  go_wp2
  go_loopw [4] (fun i wr => i = .int .i64 0 ∧ Half wr w.heap.size n n f ∧ Below w.heap.size w wr) (fun i _ => 0)
  case atStart =>
    exact ⟨rfl, ⟨_, heap_alloc_new _ _, size_madeCells _ _, fun i hi => by omega⟩, (Below.refl _ _).alloc (Nat.le_refl _) _⟩
  case round =>
    obtain ⟨rfl, hh, hbw⟩ := hrel
    go_wp2
    go_ret
    exact ⟨rfl, hh, hbw⟩

theorem toU_any {v : Value} {n : Nat} {f : Nat → Nat} {w : World} (hL : Lim w v n f) (hn : n ≤ 1048576) :
    Calls Try.prog 32 #[v] w fun e w' => e = .returned (.slice (some ⟨w.heap.size, 0, none⟩) n n) ∧ Half w' w.heap.size n n f ∧ Below w.heap.size w w' := by
  obtain ⟨a, c, rfl, h1, h2, h3, h4⟩ := hL
  rcases Nat.eq_zero_or_pos n with h0 | hp
  · exact toU_none a n c f w (by omega)
  · obtain ⟨b, off, rfl, h5⟩ := h4 hp
    exact toU_some b off n c f w hn hp h5

set_option maxHeartbeats 400000 in
theorem eqU_some (b off b' off' n c c' : Nat) (f : Nat → Nat) (w : World) (hn : n ≤ 1048576)
    (hc : ∀ i, i < n → w.cell? ⟨b, off + i, none⟩ = some (.int .u32 (f i))) (hc' : ∀ i, i < n → w.cell? ⟨b', off' + i, none⟩ = some (.int .u32 (f i))) :
    Calls Try.prog 37 #[.slice (some ⟨b, off, none⟩) n c, .slice (some ⟨b', off', none⟩) n c'] w fun e w' => e = .returned (.bool true) ∧ ∃ q, w' = w.drewN q := by
  go_enter Try.func37, Try.ntmps37
  go_wp2
  go_loopw [5] (fun i wr => ∃ k q : Nat, k ≤ n ∧ i = .int .i64 k ∧ wr = w.drewN q) (fun i _ => n - (intOf i).toNat)
  case atStart => exact ⟨0, 0, Nat.zero_le _, rfl, rfl⟩
  case round =>
    obtain ⟨k, q, hk, rfl, rfl⟩ := hrel
    by_cases hlt : k < n
    · have g1 := hc k hlt
      have g2 := hc' k hlt
      clear hc hc'
      go_wp2
      go_quiet (fail)
      go_wp2
      go_roundw
      case rel => exact ⟨k + 1, _, by omega, by go_num, rfl⟩
      case measure => simp [intOf]; omega
    · go_wp2
      go_ret
      exact ⟨rfl, q, rfl⟩

set_option maxHeartbeats 400000 in
theorem eqU_none (a a' : Option Addr) (n c c' : Nat) (w : World) (hz : n ≤ 0) :
    Calls Try.prog 37 #[.slice a n c, .slice a' n c'] w fun e w' => e = .returned (.bool true) ∧ ∃ q, w' = w.drewN q := by
  go_enter Try.func37, Try.ntmps37
  go_wp2
  go_loopw [5] (fun i wr => i = .int .i64 0 ∧ wr = w) (fun _ _ => 0)
  case atStart => exact ⟨rfl, rfl⟩
  case round =>
    obtain ⟨rfl, rfl⟩ := hrel
    go_wp2
    go_ret
    exact ⟨rfl, 0, rfl⟩

theorem eqU_any {v v' : Value} {n : Nat} {f g : Nat → Nat} {w : World} (hL : Lim w v n f) (hL' : Lim w v' n g) (hn : n ≤ 1048576) (he : ∀ i, i < n → f i = g i) :
    Calls Try.prog 37 #[v, v'] w fun e w' => e = .returned (.bool true) ∧ ∃ q, w' = w.drewN q := by
  obtain ⟨a, c, rfl, h1, h2, h3, h4⟩ := hL
  obtain ⟨a', c', rfl, h1', h2', h3', h4'⟩ := hL'
  rcases Nat.eq_zero_or_pos n with h0 | hp
  · exact eqU_none a a' n c c' w (by omega)
  · obtain ⟨b, off, rfl, h5⟩ := h4 hp
    obtain ⟨b', off', rfl, h5'⟩ := h4' hp
    exact eqU_some b off b' off' n c c' f w hn h5 (fun i hi => by rw [he i hi]; exact h5' i hi)

end Go.Proofs.Ytppfohpgcofkbaa.B

namespace Go.Proofs.Ytppfohpgcofkbaa.B
open Go.RowKit Go.Joins

theorem bcell {W w1 : World} (hb : Below W.heap.size W w1) : (∀ b o, b < W.heap.size → w1.cell? ⟨b, o, none⟩ = W.cell? ⟨b, o, none⟩) ∧ (∀ b o, b < W.heap.size → w1.frozen? ⟨b, o, none⟩ = W.frozen? ⟨b, o, none⟩) :=
  ⟨fun b o h => hb.cell (p := ⟨b, o, none⟩) h, fun b o h => hb.frozen (p := ⟨b, o, none⟩) h⟩

theorem Own.below {B w w' v n f} (h : Own B w v n f) (hb : Below w.heap.size w w') : Own B w' v n f := by
  obtain ⟨a, c, rfl, h1, h2, h3, h4⟩ := h
  refine ⟨a, c, rfl, h1, h2, h3, fun hn => ?_⟩
  obtain ⟨b, off, rfl, h7, h5, h6⟩ := h4 hn
  exact ⟨b, off, rfl, h7, fun i hi => (hb.cell (block_lt_of_cell (h5 i hi))).trans (h5 i hi), fun i hi => (hb.frozen (block_lt_of_cell (h5 i hi))).trans (h6 i hi)⟩

theorem Own.less {B B' w v n f} (h : Own B w v n f) (hb : B' ≤ B) : Own B' w v n f := by
  obtain ⟨a, c, rfl, h1, h2, h3, h4⟩ := h
  refine ⟨a, c, rfl, h1, h2, h3, fun hn => ?_⟩
  obtain ⟨b, off, rfl, h7, h5, h6⟩ := h4 hn
  exact ⟨b, off, rfl, by omega, h5, h6⟩

/-- A store into another block, or behind draws: what is owned stays. -/
theorem Own.set {B w v n f} (h : Own B w v n f) (p : Addr) (u : Value) (hp : p.block < B) : Own B (w.setCell p u) v n f := by
  obtain ⟨a, c, rfl, h1, h2, h3, h4⟩ := h
  refine ⟨a, c, rfl, h1, h2, h3, fun hn => ?_⟩
  obtain ⟨b, off, rfl, h7, h5, h6⟩ := h4 hn
  refine ⟨b, off, rfl, h7, fun i hi => ?_, fun i hi => ?_⟩
  · rw [← h5 i hi]; simp only [World.cell?]; rw [Below.heap_setCell _ _ _ _ (by omega)]
  · rw [← h6 i hi]; simp only [World.frozen?]; rw [Below.heap_setCell _ _ _ _ (by omega)]

set_option maxHeartbeats 400000 in
theorem szBig_any (m : Bool) (a : Option Addr) (n c : Nat) (left : Int) (w : World) (h0 : 0 ≤ left) (h1 : left ≤ 1048576) (hn : n ≤ 9223372036854775807) :
    Calls Try.prog 9 #[.agg #[.bool m, .slice a n c], .int .i64 left] w fun e w' => e = .returned (.int .i64 (if left < n then -1 else left - n)) ∧ Below w.heap.size w w' := by
  by_cases h : left < n
  · go_enter Try.func9, Try.ntmps9
    go_wp2_with (go_at_call 26; refine (szU_any _ _ _ _ _ h0 h1 hn).mono ?_; rintro e w' ⟨rfl, rfl⟩)
    go_ret
    exact ⟨rfl, (Below.refl _ _).alloc (Nat.le_refl _) _⟩
  · go_enter Try.func9, Try.ntmps9
    go_wp2_with (go_at_call 26; refine (szU_any _ _ _ _ _ h0 h1 hn).mono ?_; rintro e w' ⟨rfl, rfl⟩)
    go_ret
    exact ⟨rfl, (Below.refl _ _).alloc (Nat.le_refl _) _⟩

set_option maxHeartbeats 400000 in
theorem toBig_any (m : Bool) (v : Value) (n : Nat) (f : Nat → Nat) (w : World) (hL : Lim w v n f) (hn : n ≤ 1048576) :
    Calls Try.prog 15 #[.agg #[.bool m, v]] w fun e w' => ∃ v', e = .returned (.agg #[.bool m, v']) ∧ Own w.heap.size w' v' n f ∧ Below w.heap.size w w' := by
  obtain ⟨a, c, rfl, h1, h2, h3, h4⟩ := id hL
  go_enter Try.func15, Try.ntmps15
  go_wp2_with fail
  refine (toU_any (hL.below (below_alloc3 _ _ _ _)) hn).mono ?_
  rintro e w1 ⟨rfl, hh, hb⟩
  obtain ⟨hc, hf⟩ := bcell hb
  have hz := hb.size
  simp only [World.size_alloc] at hc hf hz
  simp only [World.size_alloc] at hh
  have hown := hh.own rfl (Nat.le_refl _) (by unfold maxLen; omega) h3
  clear hh
  go_wp2_with fail
  refine bodyPost_ret (v := .agg #[.bool m, .slice (some ⟨w.heap.size + 1 + 1 + 1, 0, none⟩) n n]) (by simp [results, Try.results15, go_sem, hc]) rfl ⟨_, rfl, ?_, ?_⟩
  · exact (((hown.set _ _ (by simp)).set _ _ (by simp)).set _ _ (by simp)).less (by omega)
  · exact ((((below_alloc3 w _ _ _).trans (hb.mono (by simp; omega))).setCell (by simp; omega) _).setCell (by simp) _).setCell (by simp) _

set_option maxHeartbeats 400000 in
theorem eqBig_any (m : Bool) (v v' : Value) (n : Nat) (f g : Nat → Nat) (w : World) (hL : Lim w v n f) (hL' : Lim w v' n g) (hn : n ≤ 1048576) (he : ∀ i, i < n → f i = g i) :
    Calls Try.prog 22 #[.agg #[.bool m, v], .agg #[.bool m, v']] w fun e w' => e = .returned (.bool true) ∧ Below w.heap.size w w' := by
  obtain ⟨a, c, rfl, h1, h2, h3, h4⟩ := id hL
  obtain ⟨a', c', rfl, h1', h2', h3', h4'⟩ := id hL'
  go_enter Try.func22, Try.ntmps22
  go_wp2_with fail
  refine (eqU_any (hL.below (below_alloc2 _ _ _)) (hL'.below (below_alloc2 _ _ _)) hn he).mono ?_
  rintro e w1 ⟨rfl, q, rfl⟩
  go_wp2_with fail
  go_ret
  exact ⟨rfl, (below_alloc2 _ _ _).trans (below_draws _ _ _)⟩

end Go.Proofs.Ytppfohpgcofkbaa.B

namespace Go.Proofs.Ytppfohpgcofkbaa.B
open Go.RowKit Go.Joins

theorem Try.size63 : (Try.prog.info? 140).map (·.size) = some 81 := by kernel_rfl
theorem Try.size60 : (Try.prog.info? 91).map (·.size) = some 1 := by kernel_rfl

/-- The 81 cells of a magnitude: 80 limbs, the count. -/
structure MagC (cs : Array Value) (n : Nat) (f : Nat → Nat) : Prop where
  size : cs.size = 81
  limb : ∀ i, i < 80 → cs[i]? = some (.int .u32 (f i))
  count : cs[80]? = some (.int .i64 n)

theorem MagC.one {cs n f} (h : MagC cs n f) : cs.all (·.oneCell') = true := by
  rw [Array.all_eq_true]
  intro i hi
  have hs := h.size
  by_cases e : i < 80
  · have := h.limb i e
    rw [Array.getElem?_eq_getElem hi] at this
    rw [Option.some.inj this]; rfl
  · have e' : i = 80 := by omega
    subst e'
    have := h.count
    rw [Array.getElem?_eq_getElem hi] at this
    rw [Option.some.inj this]; rfl

/-- A block that holds a magnitude. -/
def MagAt (w : World) (b n : Nat) (f : Nat → Nat) : Prop := ∃ cs, w.heap[b]? = some (.cells cs 140 (0, 0)) ∧ MagC cs n f

def zero63 : Array Value := (Array.replicate 80 (.int .u32 0)).push (.int .i64 0)
theorem zero63_mag : MagC zero63 0 (fun _ => 0) := by
  refine ⟨by decide, fun i hi => ?_, rfl⟩
  unfold zero63
  rw [Array.getElem?_push, if_neg (by simp; omega), Array.getElem?_replicate, if_pos hi]
  rfl

theorem run_zero63 (w : World) : (zeroValue 140).run Try.prog w = .ok (.agg zero63) w := by kernel_rfl

/-- Nothing but block g has turned. -/
structure Only (g : Nat) (w w' : World) : Prop where
  os : w'.os = w.os
  tape : w'.tape = w.tape
  output : w'.output = w.output
  size : w'.heap.size = w.heap.size
  block : ∀ k, k ≠ g → w'.heap[k]? = w.heap[k]?

theorem Only.below {g B w w'} (h : Only g w w') (hB : B ≤ g) : Below B w w' := ⟨h.os, h.tape, h.output, by have := h.size; omega, fun k hk => h.block k (by omega)⟩
theorem Only.refl (g w) : Only g w w := ⟨rfl, rfl, rfl, rfl, fun _ _ => rfl⟩
theorem Only.trans {g a b c} (h : Only g a b) (k : Only g b c) : Only g a c := ⟨k.os.trans h.os, k.tape.trans h.tape, k.output.trans h.output, k.size.trans h.size, fun i hi => (k.block i hi).trans (h.block i hi)⟩
theorem Only.setRow (g w) (cs : Array Value) : Only g w (w.setRow g cs) := ⟨rfl, rfl, rfl, by simp [World.setRow], fun k hk => setRow_other w g k cs (by omega)⟩
theorem Only.setCell (w : World) (p : Addr) (u : Value) : Only p.block w (w.setCell p u) := ⟨rfl, rfl, rfl, by simp [World.setCell], fun k hk => Below.heap_setCell _ _ _ _ hk⟩
theorem Only.drewN {g w w'} (h : Only g w w') (q : Nat) : Only g w (w'.drewN q) := ⟨h.os, h.tape, h.output, h.size, h.block⟩
theorem Only.cell {g w w'} (h : Only g w w') (b o : Nat) (hb : b ≠ g) : w'.cell? ⟨b, o, none⟩ = w.cell? ⟨b, o, none⟩ := by simp only [World.cell?]; rw [h.block b hb]
theorem Only.frozen {g w w'} (h : Only g w w') (b o : Nat) (hb : b ≠ g) : w'.frozen? ⟨b, o, none⟩ = w.frozen? ⟨b, o, none⟩ := by simp only [World.frozen?]; rw [h.block b hb]

theorem MagAt.only {g w w' b n f} (h : MagAt w b n f) (ho : Only g w w') (hb : b ≠ g) : MagAt w' b n f := by
  obtain ⟨cs, h1, h2⟩ := h
  exact ⟨cs, (ho.block b hb).trans h1, h2⟩
theorem MagAt.below {B w w' b n f} (h : MagAt w b n f) (ho : Below B w w') (hb : b < B) : MagAt w' b n f := by
  obtain ⟨cs, h1, h2⟩ := h
  exact ⟨cs, (ho.block b hb).trans h1, h2⟩
theorem MagAt.limb {w b n f} (h : MagAt w b n f) (i : Nat) (hi : i < 80) : w.cell? ⟨b, i, none⟩ = some (.int .u32 (f i)) := by
  obtain ⟨cs, h1, h2⟩ := h
  rw [cell_of_block h1]; exact h2.limb i hi
theorem MagAt.count {w b n f} (h : MagAt w b n f) : w.cell? ⟨b, 80, none⟩ = some (.int .i64 n) := by
  obtain ⟨cs, h1, h2⟩ := h
  rw [cell_of_block h1]; exact h2.count
theorem MagAt.frozen {w b n f} (h : MagAt w b n f) (i : Nat) : w.frozen? ⟨b, i, none⟩ = false := by
  obtain ⟨cs, h1, h2⟩ := h
  exact unfrozen_of_block h1 _
theorem MagAt.lt {w b n f} (h : MagAt w b n f) : b < w.heap.size := block_lt_of_cell h.count
theorem MagAt.setCount {w b n f} (h : MagAt w b n f) (k : Nat) : MagAt (w.setCell ⟨b, 80, none⟩ (.int .i64 k)) b k f := by
  obtain ⟨cs, h1, h2⟩ := h
  refine ⟨_, block_setCell h1 _, by simp [h2.size], fun i hi => ?_, ?_⟩
  · rw [Array.getElem?_setIfInBounds_ne (by omega)]; exact h2.limb i hi
  · simp [h2.size]
def upd (f : Nat → Nat) (i x : Nat) : Nat → Nat := fun j => if j = i then x else f j
theorem MagAt.setLimb {w b n f} (h : MagAt w b n f) (i x : Nat) (hi : i < 80) : MagAt (w.setCell ⟨b, i, none⟩ (.int .u32 x)) b n (upd f i x) := by
  obtain ⟨cs, h1, h2⟩ := h
  refine ⟨_, block_setCell h1 _, by simp [h2.size], fun j hj => ?_, ?_⟩
  · by_cases e : j = i
    · subst e; rw [Array.getElem?_setIfInBounds_self_of_lt (by rw [h2.size]; omega)]; simp [upd]
    · rw [Array.getElem?_setIfInBounds_ne (by omega)]; simp only [upd, if_neg e]; exact h2.limb j hj
  · rw [Array.getElem?_setIfInBounds_ne (by omega)]; exact h2.count

theorem wpList_alloc63 {ops : Array Oper} {rest : List Oper} {o : Oper} {a : Act} {w : World} {Q : Exit → Act → World → Prop} (d : Nat) (hd : o.dst = some d) (hg : o.guard = none) (ho : o.op = .alloc 140)
    (h : ∀ w', w'.heap.size = w.heap.size + 1 → MagAt w' w.heap.size 0 (fun _ => 0) → Below w.heap.size w w' → wpList Try.prog ops Q rest (a.put (some d) (.pointer (some ⟨w.heap.size, 0, none⟩))) w') : wpList Try.prog ops Q (o :: rest) a w := by
  subst_vars
  refine wpList_plain hg fun K hK => ?_
  unfold Oper.wp
  simp only [execOp, ho, Instr.alloc, Sem.run_bind, run_zero63, Result.andThen]
  refine hK _ _ ?_
  rw [hd]
  exact h (w.alloc (.cells zero63 140)) (by simp) ⟨zero63, heap_alloc_new _ _, zero63_mag⟩ (below_alloc1 _ _)

/-- copy(m.limbs[:], limbs) -/
theorem wpList_copyIn {ops : Array Oper} {rest : List Oper} {o : Oper} {a : Act} {w : World} {Q : Exit → Act → World → Prop} (d s : Operand) (g n k : Nat) (sv : Value) (f f0 : Nat → Nat)
    (hL : Lim w sv n f) (hn : n ≤ 80) (hm : MagAt w g k f0) (hgd : o.guard = none) (ho : o.op = .call { callee := .builtin .copy, args := #[d, s], argTypes := #[22, 22] })
    (hd : a.eval d = .slice (some ⟨g, 0, none⟩) 80 80) (hs : a.eval s = sv)
    (h : ∀ w', MagAt w' g k (fun i => if i < n then f i else f0 i) → Only g w w' → wpList Try.prog ops Q rest (a.put o.dst (.int .i64 n)) w') : wpList Try.prog ops Q (o :: rest) a w := by
  obtain ⟨sp, sc, rfl, h1, h2, h3, h4⟩ := hL
  obtain ⟨cur, hc1, hc2⟩ := hm
  rcases Nat.eq_zero_or_pos n with rfl | hp
  · refine wpList_copy_nothing hgd d s 22 22 ho 91 Try.underlying22 Try.size60 _ _ _ _ _ _ hd hs (by simp) ?_
    exact h w ⟨cur, hc1, by simpa using hc2⟩ (Only.refl _ _)
  · obtain ⟨b, off, rfl, h5⟩ := h4 hp
    have hlen : ((List.range n).map fun i => Value.int .u32 (f i)).length = n := by simp
    refine wpList_copy_own hgd d s 22 22 ho 91 Try.underlying22 Try.size60 g 0 80 80 ⟨b, off, none⟩ n sc hd hs cur 140 hc1 ((List.range n).map fun i => Value.int .u32 (f i)) (by rw [hlen]; exact (Nat.min_eq_left hn).symm) ?_ (by rw [hlen, hc2.size]; omega) ?_ ?_
    · intro j v hj
      have hjn : j < n := by have := (List.getElem?_eq_some_iff.1 hj).1; simpa using this
      have hv : v = Value.int .u32 (f j) := by simpa [hjn] using hj.symm
      rw [hv, ← h5 j hjn]
      congr 1
      unfold Addr.add; split <;> simp_all
    · intro v hv
      simp only [List.mem_map] at hv
      obtain ⟨i, _, rfl⟩ := hv
      rfl
    · rw [hlen]
      refine h _ ⟨_, setRow_heap w g _ _ _ _ hc1, ?_, fun i hi => ?_, ?_⟩ (Only.setRow _ _ _)
      · simp [hc2.size]; omega
      · simp only [List.take_zero, List.nil_append, List.getElem?_toArray, Nat.zero_add]
        by_cases e : i < n
        · rw [List.getElem?_append_left (by rw [hlen]; exact e)]; simp [e]
        · rw [List.getElem?_append_right (by rw [hlen]; omega), hlen, List.getElem?_drop, show n + (i - n) = i by omega]
          simp only [if_neg e, Array.getElem?_toList]; exact hc2.limb i hi
      · simp only [List.take_zero, List.nil_append, List.getElem?_toArray, Nat.zero_add]
        rw [List.getElem?_append_right (by rw [hlen]; omega), hlen, List.getElem?_drop, show n + (80 - n) = 80 by omega]
        simp only [Array.getElem?_toList]; exact hc2.count

/-- A magnitude by value out of its block. -/
theorem wpList_load63 {ops : Array Oper} {rest : List Oper} {o : Oper} {a : Act} {w : World} {Q : Exit → Act → World → Prop} (x : Operand) (g n : Nat) (f : Nat → Nat)
    (hm : MagAt w g n f) (hgd : o.guard = none) (ho : o.op = .load 140 x) (hx : a.eval x = .pointer (some ⟨g, 0, none⟩))
    (h : ∀ cs, MagC cs n f → wpList Try.prog ops Q rest (a.put o.dst (.agg cs)) w) : wpList Try.prog ops Q (o :: rest) a w := by
  obtain ⟨cs, h1, h2⟩ := hm
  exact wpList_load_row hgd 140 x ho g hx 140 cs (0, 0) _ h1 Try.underlying140 rfl (by rw [h2.size]; exact Try.size63) (h cs h2)

/-- .. and into one. -/
theorem wpList_store63 {ops : Array Oper} {rest : List Oper} {o : Oper} {a : Act} {w : World} {Q : Exit → Act → World → Prop} (x y : Operand) (g n k : Nat) (f f0 : Nat → Nat) (cs : Array Value)
    (hc : MagC cs n f) (hm : MagAt w g k f0) (hgd : o.guard = none) (ho : o.op = .store 140 x y) (hx : a.eval x = .pointer (some ⟨g, 0, none⟩)) (hy : a.eval y = .agg cs)
    (h : ∀ w', MagAt w' g n f → Only g w w' → wpList Try.prog ops Q rest (a.put o.dst undef) w') : wpList Try.prog ops Q (o :: rest) a w := by
  obtain ⟨old, h1, h2⟩ := hm
  refine wpList_store_row hgd 140 x y ho g cs hx hy 140 old h1 (by rw [hc.size]; exact Try.size63) (by rw [h2.size, hc.size]) hc.one ?_
  exact h _ ⟨cs, setRow_heap w g _ _ _ _ h1, hc⟩ (Only.setRow _ _ _)

theorem results63 {fn : Func} {p : Tmp} (h : fn.results = #[.cell p 140]) (tmps : Array Value) (w : World) (g n : Nat) (f : Nat → Nat) (cs : Array Value)
    (hp : tmps.getD p undef = .pointer (some ⟨g, 0, none⟩)) (h1 : w.heap[g]? = some (.cells cs 140 (0, 0))) (h2 : MagC cs n f) : (results fn tmps).run Try.prog w = .ok (.agg cs) w :=
  results_cell_row h tmps w g 140 cs (0, 0) _ hp h1 Try.underlying140 rfl (by rw [h2.size]; exact Try.size63)

end Go.Proofs.Ytppfohpgcofkbaa.B

namespace Go.Proofs.Ytppfohpgcofkbaa.B
open Go.RowKit Go.Joins

/-- Nothing below B has turned, and no block but the slice's own. -/
structure Chg (B : Nat) (v : Value) (n : Nat) (w w' : World) : Prop where
  bel : Below B w w'
  size : w'.heap.size = w.heap.size
  block : ∀ x, (0 < n → v.ownBlock ≠ some x) → w'.heap[x]? = w.heap[x]?

theorem chg_refl (B : Nat) (v : Value) (n : Nat) (w : World) : Chg B v n w w := ⟨Below.refl _ _, rfl, fun _ _ => rfl⟩

theorem Own.at {B w v n f} (h : Own B w v n f) (hn : 0 < n) : ∃ b, v.ownBlock = some b ∧ B ≤ b ∧ b < w.heap.size := by
  obtain ⟨a, c, rfl, h1, h2, h3, h4⟩ := h
  obtain ⟨b, off, rfl, h7, h5, h6⟩ := h4 hn
  exact ⟨b, rfl, h7, block_lt_of_cell (h5 0 hn)⟩

end Go.Proofs.Ytppfohpgcofkbaa.B

namespace Go.Proofs.Ytppfohpgcofkbaa.B
open Go.RowKit Go.Joins

def ext (n : Nat) (f : Nat → Nat) : Nat → Nat := fun i => if i < n then f i else 0
def trimN (f : Nat → Nat) : Nat → Nat
  | 0 => 0
  | n + 1 => if f n = 0 then trimN f n else n + 1

set_option maxHeartbeats 400000 in
set_option maxRecDepth 100000 in
theorem magOf_any (v : Value) (n : Nat) (f : Nat → Nat) (w : World) (hL : Lim w v n f) (hn : n ≤ 80) :
    Calls Try.prog 81 #[v] w fun e w' => ∃ cs, e = .returned (.agg cs) ∧ MagC cs n (ext n f) ∧ Below w.heap.size w w' := by
  obtain ⟨sa, sc, rfl, -⟩ := id hL
  go_enter Try.func81, Try.ntmps81
  go_wp2_with (first
    | ((with_reducible refine wpList_alloc63 2 ?_ ?_ ?_ ?_); rfl; rfl; rfl; intro w1 hz1 hm1 hb1)
    | ((with_reducible refine wpList_alloc63 3 ?_ ?_ ?_ ?_); rfl; rfl; rfl; intro w2 hz2 hm2 hb2)
    | ((with_reducible refine wpList_copyIn (.tmp 5) (.tmp 6) (w.heap.size + 1) n 0 _ f _ (hL.below (hb1.trans (hb2.mono (by omega)))) hn (by rw [← hz1]; exact hm2) ?_ ?_ ?_ ?_ ?_); rfl; rfl; rfl; rfl; intro w3 hm3 ho3; have c80 := hm3.count; have f80 := hm3.frozen 80)
    | ((with_reducible refine wpList_load63 (.tmp 3) (w.heap.size + 1) n _ (hm3.setCount n) ?_ ?_ ?_ ?_); rfl; rfl; rfl; intro cs hcs)
    | ((with_reducible refine wpList_store63 (.tmp 2) (.tmp 9) w.heap.size n 0 _ (fun _ => 0) cs hcs ?_ ?_ ?_ ?_ ?_ ?_); rotate_left; rfl; rfl; rfl; rfl; intro w4 hm4 ho4))
  · obtain ⟨cs', h1, h2⟩ := hm4
    refine bodyPost_ret (v := .agg cs') (results63 rfl _ _ w.heap.size n _ cs' (by simp [Act.put]) h1 h2) rfl ⟨cs', rfl, h2, ?_⟩
    exact (((hb1.trans (hb2.mono (by omega))).trans (ho3.below (by omega))).trans ((Only.setCell _ _ _).below (by simp))).trans (ho4.below (Nat.le_refl _))
  · exact ((hm1.below hb2 (by omega)).only ho3 (by omega)).only (Only.setCell _ _ _) (by simp)

set_option maxHeartbeats 400000 in
theorem setCount_any (b most k : Nat) (f : Nat → Nat) (w : World) (hm : MagAt w b k f) (hn : most ≤ 80) :
    Calls Try.prog 83 #[.pointer (some ⟨b, 0, none⟩), .int .i64 most] w fun e w' => e = .returned (.tuple #[]) ∧ w' = w.setCell ⟨b, 80, none⟩ (.int .i64 (trimN f most)) := by
  have c80 := hm.count
  have f80 := hm.frozen 80
  have hl := hm.limb
  clear hm
  go_enter Try.func83, Try.ntmps83
  go_wp2
  go_loop [1] (fun i => ∃ k : Nat, k ≤ most ∧ i = .int .i64 k ∧ trimN f k = trimN f most) (fun i => (intOf i).toNat)
  case atStart => exact ⟨most, Nat.le_refl _, rfl, rfl⟩
  case round =>
    obtain ⟨k, hk, rfl, he⟩ := hrel
    have He : Hid (trimN f k = trimN f most) := he
    clear he
    rcases Nat.eq_zero_or_pos k with hz | hp
    · subst hz
      clear hl
      go_wp2
      go_end0
      exact ⟨rfl, by rw [← He.out]; rfl⟩
    · obtain ⟨j, rfl⟩ : ∃ j, k = j + 1 := ⟨k - 1, by omega⟩
      have g1 := hl j (by omega)
      clear hl
      by_cases h0 : f j = 0
      · have h0' : (((f j : Nat) : Int) == 0) = true := by simp [h0]
        have HH : Hid (trimN f j = trimN f most) := by rw [← He.out]; simp [trimN, h0, Hid]
        clear h0 He
        go_wp2
        go_round
        case rel => exact ⟨j, by omega, by go_num, HH.out⟩
        case measure => simp [intOf]
      · have h0' : (((f j : Nat) : Int) == 0) = false := by simp [h0]
        have HH : Hid (trimN f most = j + 1) := by rw [← He.out]; simp [trimN, h0, Hid]
        clear He h0
        go_wp2
        go_end0
        exact ⟨rfl, by rw [HH.out]; rfl⟩


theorem trimN_le (f : Nat → Nat) (n : Nat) : trimN f n ≤ n := by
  induction n with
  | zero => exact Nat.le_refl _
  | succ n ih => unfold trimN; split <;> omega

/-- make([]uint32, n), then copy(limbs, m.limbs[:]). -/
theorem wpList_copyOut {ops : Array Oper} {rest : List Oper} {o : Oper} {a : Act} {w : World} {Q : Exit → Act → World → Prop} (d s : Operand) (g gs n k : Nat) (f f0 : Nat → Nat)
    (hm : MagAt w gs k f) (hn : n ≤ 80) (hh : Half w g n 0 f0) (hgd : o.guard = none) (ho : o.op = .call { callee := .builtin .copy, args := #[d, s], argTypes := #[22, 22] })
    (hd : a.eval d = .slice (some ⟨g, 0, none⟩) n n) (hs : a.eval s = .slice (some ⟨gs, 0, none⟩) 80 80)
    (h : ∀ w', Half w' g n n f → Only g w w' → wpList Try.prog ops Q rest (a.put o.dst (.int .i64 n)) w') : wpList Try.prog ops Q (o :: rest) a w := by
  obtain ⟨cur, hc1, hc2, -⟩ := hh
  have hlen : ((List.range n).map fun i => Value.int .u32 (f i)).length = n := by simp
  refine wpList_copy_own hgd d s 22 22 ho 91 Try.underlying22 Try.size60 g 0 n n ⟨gs, 0, none⟩ 80 80 hd hs cur 91 hc1 ((List.range n).map fun i => Value.int .u32 (f i)) (by rw [hlen]; exact (Nat.min_eq_right hn).symm) ?_ (by rw [hlen, hc2]; omega) ?_ ?_
  · intro j v hj
    have hjn : j < n := by have := (List.getElem?_eq_some_iff.1 hj).1; simpa using this
    have hv : v = Value.int .u32 (f j) := by simpa [hjn] using hj.symm
    rw [hv, ← hm.limb j (by omega)]
    congr 1
    unfold Addr.add; split <;> simp_all
  · intro v hv
    simp only [List.mem_map] at hv
    obtain ⟨i, _, rfl⟩ := hv
    rfl
  · rw [hlen]
    refine h _ ⟨_, setRow_heap w g _ _ _ _ hc1, ?_, fun i hi => ?_⟩ (Only.setRow _ _ _)
    · simp [hc2]
    · simp only [List.take_zero, List.nil_append, List.getElem?_toArray]
      rw [List.getElem?_append_left (by rw [hlen]; exact hi)]; simp [hi]

theorem Half.only {g w w' b n k f} (h : Half w b n k f) (ho : Only g w w') (hb : b ≠ g) : Half w' b n k f := by
  obtain ⟨cs, h1, h2⟩ := h
  exact ⟨cs, (ho.block b hb).trans h1, h2⟩

end Go.Proofs.Ytppfohpgcofkbaa.B

namespace Go.Proofs.Ytppfohpgcofkbaa.B
open Go.RowKit Go.Joins

def U32s (n : Nat) (f : Nat → Nat) : List Value := (List.range n).map fun i => Value.int .u32 (f i)
theorem U32s_length (n : Nat) (f : Nat → Nat) : (U32s n f).length = n := by simp [U32s]
theorem U32s_get (n : Nat) (f : Nat → Nat) (i : Nat) (h : i < n) : (U32s n f)[i]? = some (.int .u32 (f i)) := by simp [U32s, h]
theorem U32s_app (n m : Nat) (f g : Nat → Nat) : U32s n f ++ U32s m g = U32s (n + m) (fun i => if i < n then f i else g (i - n)) := by
  apply List.ext_getElem?
  intro i
  by_cases h : i < n
  · rw [List.getElem?_append_left (by rw [U32s_length]; exact h), U32s_get _ _ _ h, U32s_get _ _ _ (by omega), if_pos h]
  · rw [List.getElem?_append_right (by rw [U32s_length]; omega), U32s_length]
    by_cases h2 : i < n + m
    · rw [U32s_get _ _ _ (by omega), U32s_get _ _ _ h2, if_neg h]
    · rw [List.getElem?_eq_none (by rw [U32s_length]; omega), List.getElem?_eq_none (by rw [U32s_length]; omega)]
theorem U32s_congr {n : Nat} {f g : Nat → Nat} (h : ∀ i, i < n → f i = g i) : U32s n f = U32s n g := by
  unfold U32s
  apply List.map_congr_left
  intro i hi
  rw [h i (by simpa using hi)]

theorem addAt (b o j : Nat) : (⟨b, o, none⟩ : Addr).add j = ⟨b, o + j, none⟩ := by unfold Addr.add; split <;> simp_all

/-- A slice that the call itself has made, with whatever room. -/
def Row (B : Nat) (w : World) (v : Value) (n : Nat) (f : Nat → Nat) : Prop := w.ownsRow B 91 1 v n (U32s n f)

theorem Row.own {B w v n f} (h : Row B w v n f) (hf : ∀ i, i < n → f i < 4294967296) : Own B w v n f := by
  obtain ⟨h1, h2⟩ := h
  rcases h2 with ⟨rfl, rfl⟩ | ⟨g, cap, cur, rfl, hb, hg, hn, hc, hs, ht⟩
  · exact ⟨none, 0, rfl, Nat.le_refl _, ⟨by unfold maxLen; omega, fun _ => rfl⟩, fun i hi => by omega, fun h => by omega⟩
  · refine ⟨_, cap, rfl, hn, ⟨hc, fun e => by cases e⟩, hf, fun _ => ⟨g, 0, rfl, hb, fun i hi => ?_, fun i _ => unfrozen_of_block hg _⟩⟩
    rw [cell_of_block hg, Nat.zero_add]
    have := congrArg (fun l => l[i]?) ht
    simp only [U32s_get _ _ _ hi] at this
    rw [List.getElem?_take, if_pos (by omega)] at this
    simpa using this

theorem wpList_appendU {ops : Array Oper} {rest : List Oper} {o : Oper} {a : Act} {w : World} {Q : Exit → Act → World → Prop} (s x : Operand) (B : Nat) (v sv : Value) (n m : Nat) (f g : Nat → Nat)
    (hown : Row B w v n f) (hL : Lim w sv m g) (hnil : NilOk sv) (hb : n + m ≤ 1073741824) (hbase : B ≤ w.heap.size)
    (hgd : o.guard = none) (ho : o.op = .call { callee := .builtin .append, args := #[s, x], argTypes := #[22, 22] }) (hs : a.eval s = v) (hx : a.eval x = sv)
    (h : ∀ v' w', Row B w' v' (n + m) (fun i => if i < n then f i else g (i - n)) → Below B w w' → wpList Try.prog ops Q rest (a.put o.dst v') w') : wpList Try.prog ops Q (o :: rest) a w := by
  obtain ⟨i0, hi, hz0, hz1, hz2⟩ := info_parts Try.info91
  obtain ⟨sa, sc, rfl, h1, h2, h3, h4⟩ := hL
  cases sa with
  | none =>
    have hm : m = 0 := by
      rcases Nat.eq_zero_or_pos m with h0 | hp
      · exact h0
      · obtain ⟨b, off, e, _⟩ := h4 hp; cases e
    have hc : sc = 0 := hnil _ _ rfl
    subst hm hc
    refine wpList_append_own_none hgd s x 22 ho B 91 i0 1 Try.underlying22 hi v n _ hs hown hx ?_
    refine h v w ?_ (Below.refl _ _)
    show w.ownsRow B 91 1 v n (U32s n _)
    rw [U32s_congr (g := f) (fun i hi => by simp [hi])]
    exact hown
  | some ad =>
    refine wpList_append_own w hgd s x 22 ho B 91 i0 (.int .u32 0) 1 4 Try.underlying22 hi hz0 hz1 hz2 rfl (by decide) v n _ hs hown ad m sc (U32s m g) hx (by rw [U32s_length]; omega) ?_ ?_ (by unfold maxLen; omega) (by omega) hbase ?_
    · intro j u hj
      have hjm : j < m := by have := (List.getElem?_eq_some_iff.1 hj).1; rwa [U32s_length] at this
      obtain ⟨b, off, e, h5⟩ := h4 (by omega)
      rw [U32s_get _ _ _ hjm] at hj
      rw [← hj, Option.some.inj e, addAt]
      exact h5 j hjm
    · intro u hu
      simp only [U32s, List.mem_map] at hu
      obtain ⟨i, _, rfl⟩ := hu
      rfl
    · intro v' w' h5 h6 _
      rw [U32s_app] at h5
      exact h v' w' h5 ((Below.refl _ _).grown h6 hbase (fun k hk => (hown.lt k hk).1))


theorem Row.empty (w : World) (f : Nat → Nat) : Row w.heap.size (w.alloc (.cells #[] 91)) (.slice (some ⟨w.heap.size, 0, none⟩) 0 0) 0 f :=
  ⟨by simp [U32s], .inr ⟨w.heap.size, 0, #[], rfl, Nat.le_refl _, heap_alloc_new _ _, Nat.le_refl _, by unfold maxLen; omega, by simp, by simp [U32s]⟩⟩
theorem Row.eq {B w v n n' f f'} (h : Row B w v n f) (hn : n = n') (hf : ∀ i, i < n' → f i = f' i) : Row B w v n' f' := by
  subst hn
  show w.ownsRow B 91 1 v n (U32s n f')
  rw [← U32s_congr hf]; exact h
theorem Lim.take {w a n c f} (h : Lim w (.slice a n c) n f) (k : Nat) (hk : k ≤ n) : Lim w (.slice a k c) k f := by
  obtain ⟨a', c', e, h1, h2, h3, h4⟩ := h
  simp only [Value.slice.injEq] at e
  obtain ⟨rfl, -, rfl⟩ := e
  refine ⟨a, c, rfl, by omega, h2, fun i hi => h3 i (by omega), fun hp => ?_⟩
  obtain ⟨b, off, e, h5⟩ := h4 (by omega)
  exact ⟨b, off, e, fun i hi => h5 i (by omega)⟩
theorem nilOk_some (b : Addr) (n c : Nat) : NilOk (.slice (some b) n c) := fun _ _ e => by cases e

set_option maxHeartbeats 400000 in
set_option maxRecDepth 100000 in
theorem trim_some (b off n c : Nat) (f : Nat → Nat) (w : World) (hL : Lim w (.slice (some ⟨b, off, none⟩) n c) n f) (hn : n ≤ 2097152) (hp : 0 < n) (hcn : n ≤ c)
    (hc : ∀ i, i < n → w.cell? ⟨b, off + i, none⟩ = some (.int .u32 (f i))) :
    Calls Try.prog 47 #[.slice (some ⟨b, off, none⟩) n c] w fun e w' => ∃ v', e = .returned v' ∧ Row w.heap.size w' v' (trimN f n) f ∧ Below w.heap.size w w' := by
  go_enter Try.func47, Try.ntmps47
  go_wp2
  go_loop [3] (fun i => ∃ k : Nat, k ≤ n ∧ i = .int .i64 k ∧ trimN f k = trimN f n) (fun i => (intOf i).toNat)
  case atStart => exact ⟨n, Nat.le_refl _, rfl, rfl⟩
  case round =>
    obtain ⟨k, hk, rfl, he⟩ := hrel
    have He : Hid (trimN f k = trimN f n) := he
    clear he
    rcases Nat.eq_zero_or_pos k with hz | hp
    · subst hz
      go_wp2
      go_ret
      exact ⟨_, rfl, by rw [← He.out]; exact Row.empty w f, below_alloc1 _ _⟩
    · obtain ⟨j, rfl⟩ : ∃ j, k = j + 1 := ⟨k - 1, by omega⟩
      have g1 := hc j (by omega)
      by_cases h0 : f j = 0
      · have h0' : (((f j : Nat) : Int) == 0) = true := by simp [h0]
        have HH : Hid (trimN f j = trimN f n) := by rw [← He.out]; simp [trimN, h0, Hid]
        clear h0 He hc
        go_wp2
        go_round
        case rel => exact ⟨j, by omega, by go_num, HH.out⟩
        case measure => simp [intOf]
      · have h0' : (((f j : Nat) : Int) == 0) = false := by simp [h0]
        have HH : Hid (trimN f n = j + 1) := by rw [← He.out]; simp [trimN, h0, Hid]
        clear He h0 hc
        have hl := (hL.take (j + 1) hk).below (below_alloc1 w (.cells #[] 91))
        go_wp2_with (at_builtin; (with_reducible refine wpList_appendU (.tmp 18) (.tmp 21) w.heap.size _ _ 0 (j + 1) f f (Row.empty w f) hl (nilOk_some _ _ _) ?_ ?_ ?_ ?_ ?_ ?_ ?_); omega; (simp); rfl; rfl; rfl; rfl; intro v' w' hr hb)
        go_ret
        exact ⟨v', rfl, by rw [HH.out]; exact hr.eq (by omega) (fun i _ => by simp), (below_alloc1 _ _).trans hb⟩


set_option maxHeartbeats 400000 in
set_option maxRecDepth 100000 in
theorem trim_none (a : Option Addr) (c : Nat) (f : Nat → Nat) (w : World) (hnil : NilOk (.slice a 0 c)) :
    Calls Try.prog 47 #[.slice a 0 c] w fun e w' => ∃ v', e = .returned v' ∧ Row w.heap.size w' v' 0 f ∧ Below w.heap.size w w' := by
  cases a with
  | none =>
    have hc : c = 0 := hnil _ _ rfl
    subst hc
    clear hnil
    go_enter Try.func47, Try.ntmps47
    go_wp2
    go_loop [3] (fun i => i = .int .i64 0) (fun _ => 0)
    case atStart => rfl
    case round =>
      obtain rfl := hrel
      go_wp2
      go_ret
      exact ⟨_, rfl, Row.empty w f, below_alloc1 _ _⟩
  | some x =>
    clear hnil
    go_enter Try.func47, Try.ntmps47
    go_wp2
    go_loop [3] (fun i => i = .int .i64 0) (fun _ => 0)
    case atStart => rfl
    case round =>
      obtain rfl := hrel
      go_wp2
      go_ret
      exact ⟨_, rfl, Row.empty w f, below_alloc1 _ _⟩

theorem trim_any {v : Value} {n : Nat} {f : Nat → Nat} {w : World} (hL : Lim w v n f) (hnil : NilOk v) (hn : n ≤ 2097152) :
    Calls Try.prog 47 #[v] w fun e w' => ∃ v', e = .returned v' ∧ Row w.heap.size w' v' (trimN f n) f ∧ Below w.heap.size w w' := by
  obtain ⟨a, c, rfl, h1, h2, h3, h4⟩ := id hL
  rcases Nat.eq_zero_or_pos n with rfl | hp
  · exact trim_none a c f w hnil
  · obtain ⟨b, off, rfl, h5⟩ := h4 hp
    exact trim_some b off n c f w hL hn hp h1 h5

end Go.Proofs.Ytppfohpgcofkbaa.B

namespace Go.Proofs.Ytppfohpgcofkbaa.B
open Go.RowKit Go.Joins

def two (U : Nat) : Nat → Nat := fun i => if i = 0 then U % 4294967296 else if i = 1 then U / 4294967296 else 0

theorem two_lt (U : Nat) (h : U ≤ 9223372036854775808) (i : Nat) : two U i < 4294967296 := by
  unfold two
  split
  · omega
  · split <;> omega

theorem lim_two (W : World) (U : Nat) (p q : Int) (b : Nat) (hb : b = W.heap.size) (h : U ≤ 9223372036854775808) (hp : p = ((U % 4294967296 : Nat) : Int)) (hq : q = ((U / 4294967296 : Nat) : Int)) :
    Lim (W.alloc (.cells #[.int .u32 p, .int .u32 q] 91)) (.slice (some ⟨b, 0, none⟩) 2 2) 2 (two U) := by
  subst hb hp hq
  refine ⟨_, 2, rfl, Nat.le_refl _, by unfold maxLen; omega, fun i _ => two_lt U h i, fun _ => ⟨_, 0, rfl, fun i hi => ?_⟩⟩
  match i, hi with
  | 0, _ => simp [two]
  | 1, _ => simp [two]

theorem wneg (U : Nat) (h : U ≤ 9223372036854775808) : IntKind.u64.wrap (-IntKind.u64.wrap (-(U : Int))) = U := by
  rw [IntKind.wrap_u64, IntKind.wrap_u64]; omega

structure Res2 (wx : World) (b : Nat) (x0 x1 : Value) : Prop where
  c0 : wx.cell? ⟨b, 0, none⟩ = some x0
  c1 : wx.cell? ⟨b, 1, none⟩ = some x1
  f0 : wx.frozen? ⟨b, 0, none⟩ = false
  f1 : wx.frozen? ⟨b, 1, none⟩ = false
  lt : b < wx.heap.size
theorem Res2.start (w : World) (x0 x1 : Value) (t : TypeId) : Res2 (w.alloc (.cells #[x0, x1] t)) w.heap.size x0 x1 := ⟨by simp, by simp, by simp, by simp, by simp⟩
theorem Res2.next {w1 w2 : World} {b : Nat} {x0 x1 : Value} (h : Res2 w1 b x0 x1) (hb : Below w1.heap.size w1 w2) : Res2 w2 b x0 x1 :=
  have hz := h.lt
  ⟨(hb.cell (p := ⟨b, 0, none⟩) hz).trans h.c0, (hb.cell (p := ⟨b, 1, none⟩) hz).trans h.c1, (hb.frozen (p := ⟨b, 0, none⟩) hz).trans h.f0, (hb.frozen (p := ⟨b, 1, none⟩) hz).trans h.f1, by have := hb.size; omega⟩

end Go.Proofs.Ytppfohpgcofkbaa.B

namespace Go.Proofs.Ytppfohpgcofkbaa.B
open Go.RowKit Go.Joins

theorem upd_two (U : Nat) : upd (upd (fun _ => 0) 0 (U % 4294967296)) 1 (U / 4294967296) = two U := by
  funext i
  unfold upd two
  by_cases h1 : i = 1
  · subst h1; simp
  · by_cases h0 : i = 0 <;> simp [h0, h1]

theorem Res2.only {g : Nat} {w1 w2 : World} {b : Nat} {x0 x1 : Value} (h : Res2 w1 b x0 x1) (ho : Only g w1 w2) (hb : b ≠ g) : Res2 w2 b x0 x1 :=
  ⟨(ho.cell b 0 hb).trans h.c0, (ho.cell b 1 hb).trans h.c1, (ho.frozen b 0 hb).trans h.f0, (ho.frozen b 1 hb).trans h.f1, by have := h.lt; have := ho.size; omega⟩

theorem setCount_at (b most k : Nat) (f : Nat → Nat) (w : World) (hm : MagAt w b k f) (hn : most ≤ 80) :
    Calls Try.prog 83 #[.pointer (some ⟨b, 0, none⟩), .int .i64 most] w fun e w' => e = .returned (.tuple #[]) ∧ MagAt w' b (trimN f most) f ∧ Only b w w' := by
  refine (setCount_any b most k f w hm hn).mono ?_
  rintro e w' ⟨rfl, rfl⟩
  exact ⟨rfl, hm.setCount _, Only.setCell w ⟨b, 80, none⟩ _⟩

end Go.Proofs.Ytppfohpgcofkbaa.B
