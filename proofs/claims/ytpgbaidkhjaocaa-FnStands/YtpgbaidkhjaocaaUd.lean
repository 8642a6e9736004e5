import Derived.Test.YtpgbaidkhjaocaaRows
import Derived.WalkKit
import Derived.WalkSpells
import Derived.WalkLawsBesides
import Derived.Deep.OwnRows
import Derived.Deep.QuietTactic
import Derived.BigQuiet
import Derived.Deep.RegionWith
import Derived.Lib.SmallJoins
namespace Go.Proofs.Ytpgbaidkhjaocaa.D
open Go.RowKit Go.Joins

theorem hide {p : Prop} (h : p) : Hid p := h

/-- Nothing but block g has turned. -/
structure Only (g : Nat) (w w' : World) : Prop where
  os : w'.os = w.os
  tape : w'.tape = w.tape
  output : w'.output = w.output
  size : w'.heap.size = w.heap.size
  block : ∀ k, k ≠ g → w'.heap[k]? = w.heap[k]?

theorem Only.below {g B w w'} (h : Only g w w') (hB : B ≤ g) : Below B w w' := ⟨h.os, h.tape, h.output, by have := h.size; omega, fun k hk => h.block k (by omega)⟩
theorem Only.refl (g w) : Only g w w := ⟨rfl, rfl, rfl, rfl, fun _ _ => rfl⟩
theorem Only.trans {g a b c} (h : Only g a b) (k : Only g b c) : Only g a c := ⟨k.os.trans h.os, k.tape.trans h.tape, k.output.trans h.output, k.size.trans h.size, fun i hi => (k.block i hi).trans (h.block i hi)⟩
theorem Only.setCell (w : World) (p : Addr) (u : Value) : Only p.block w (w.setCell p u) := ⟨rfl, rfl, rfl, by simp [World.setCell], fun k hk => Below.heap_setCell _ _ _ _ hk⟩
theorem Only.drewN {g w w'} (h : Only g w w') (q : Nat) : Only g w (w'.drewN q) := ⟨h.os, h.tape, h.output, h.size, h.block⟩
theorem Only.cell {g w w'} (h : Only g w w') (b o : Nat) (hb : b ≠ g) : w'.cell? ⟨b, o, none⟩ = w.cell? ⟨b, o, none⟩ := by simp only [World.cell?]; rw [h.block b hb]
theorem Only.frozen {g w w'} (h : Only g w w') (b o : Nat) (hb : b ≠ g) : w'.frozen? ⟨b, o, none⟩ = w.frozen? ⟨b, o, none⟩ := by simp only [World.frozen?]; rw [h.block b hb]


structure Res3 (wx : World) (b : Nat) (x0 x1 x2 : Value) : Prop where
  c0 : wx.cell? ⟨b, 0, none⟩ = some x0
  c1 : wx.cell? ⟨b, 1, none⟩ = some x1
  c2 : wx.cell? ⟨b, 2, none⟩ = some x2
  f0 : wx.frozen? ⟨b, 0, none⟩ = false
  f1 : wx.frozen? ⟨b, 1, none⟩ = false
  f2 : wx.frozen? ⟨b, 2, none⟩ = false
  lt : b < wx.heap.size
theorem Res3.start (w : World) (x0 x1 x2 : Value) (t : TypeId) : Res3 (w.alloc (.cells #[x0, x1, x2] t)) w.heap.size x0 x1 x2 := ⟨by simp, by simp, by simp, by simp, by simp, by simp, by simp⟩
theorem Res3.next {w1 w2 : World} {b : Nat} {x0 x1 x2 : Value} (h : Res3 w1 b x0 x1 x2) (hb : Below w1.heap.size w1 w2) : Res3 w2 b x0 x1 x2 :=
  have hz := h.lt
  ⟨(hb.cell (p := ⟨b, 0, none⟩) hz).trans h.c0, (hb.cell (p := ⟨b, 1, none⟩) hz).trans h.c1, (hb.cell (p := ⟨b, 2, none⟩) hz).trans h.c2, (hb.frozen (p := ⟨b, 0, none⟩) hz).trans h.f0, (hb.frozen (p := ⟨b, 1, none⟩) hz).trans h.f1, (hb.frozen (p := ⟨b, 2, none⟩) hz).trans h.f2, by have := hb.size; omega⟩

/-- Of the blocks that were there only p has changed. -/
structure Dr (p : Nat) (w w' : World) : Prop where
  bel : Below p w w'
  up : ∀ b, p < b → b < w.heap.size → w'.heap[b]? = w.heap[b]?

theorem Dr.size {p w w'} (h : Dr p w w') : w.heap.size ≤ w'.heap.size := h.bel.size
theorem Dr.refl (p w) : Dr p w w := ⟨Below.refl _ _, fun _ _ _ => rfl⟩
theorem Dr.trans {p a b c} (h : Dr p a b) (k : Dr p b c) : Dr p a c := ⟨h.bel.trans k.bel, fun i h1 h2 => (k.up i h1 (by have := h.size; omega)).trans (h.up i h1 h2)⟩
theorem Dr.below {p w w'} (h : Below w.heap.size w w') (hp : p ≤ w.heap.size) : Dr p w w' := ⟨h.mono hp, fun b _ h2 => h.block b h2⟩
theorem Dr.only {p w w'} (h : Only p w w') : Dr p w w' := ⟨h.below (Nat.le_refl _), fun b h1 _ => h.block b (by omega)⟩
theorem Dr.eq {p w w' b} (h : Dr p w w') (hb : b < w.heap.size) (hn : b ≠ p) : w'.heap[b]? = w.heap[b]? := by
  by_cases hl : b < p
  · exact h.bel.block b hl
  · exact h.up b (by omega) hb
theorem Dr.cell {p w w' b o} (h : Dr p w w') (hb : b < w.heap.size) (hn : b ≠ p) : w'.cell? ⟨b, o, none⟩ = w.cell? ⟨b, o, none⟩ := by simp only [World.cell?]; rw [h.eq hb hn]
theorem Dr.frozen {p w w' b o} (h : Dr p w w') (hb : b < w.heap.size) (hn : b ≠ p) : w'.frozen? ⟨b, o, none⟩ = w.frozen? ⟨b, o, none⟩ := by simp only [World.frozen?]; rw [h.eq hb hn]

/-- A source of draws at block p: k bytes, read as far as t. -/
def Src (w : World) (p k t : Nat) : Prop :=
  ∃ (a : Option Addr) (c : Nat) (z : Int), Res3 w p (.slice a k c) (.int .i64 t) (.int .i64 z) ∧ k ≤ c ∧
    (0 < k → ∃ b off, a = some ⟨b, off, none⟩ ∧ b < p ∧ ∃ g : Nat → Nat, ∀ i, i < k → g i < 256 ∧ w.cell? ⟨b, off + i, none⟩ = some (.int .u8 (g i)))

theorem Src.lt {w p k t} (h : Src w p k t) : p < w.heap.size := by obtain ⟨a, c, z, h1, _⟩ := h; exact h1.lt
theorem Src.below {w w' p k t} (h : Src w p k t) (hb : Below w.heap.size w w') : Src w' p k t := by
  obtain ⟨a, c, z, h1, h2, h3⟩ := h
  refine ⟨a, c, z, h1.next hb, h2, fun hk => ?_⟩
  obtain ⟨b, off, e, h4, g, h5⟩ := h3 hk
  exact ⟨b, off, e, h4, g, fun i hi => ⟨(h5 i hi).1, (hb.cell (block_lt_of_cell (h5 i hi).2)).trans (h5 i hi).2⟩⟩

theorem w64 (x : Int) (h0 : 0 ≤ x) (h1 : x < 10000000000) : wrap64 x = x := by
  have e1 : (-9223372036854775808 : Int) ≤ x := by omega
  have e2 : x ≤ (9223372036854775807 : Int) := by omega
  exact IntWalk.wrap64_in _ ⟨e1, e2⟩
theorem drawn1 (G Q : Nat) (hG : G < 256) (hQ : Q < 100000) : wrap64 ((G : Int) + wrap64 (wrap64 (Q : Int) * 37)) = ((G + Q * 37 : Nat) : Int) := by
  rw [w64 (Q : Int) (by omega) (by omega), w64 ((Q : Int) * 37) (by omega) (by omega), w64 _ (by omega) (by omega)]
  omega
theorem drawn2 (V G t : Nat) (hV : V < 5000000) (hG : G < 256) (ht : t < 100000) : wrap64 (wrap64 (wrap64 ((V : Int) * 251) + (G : Int) * 13) + (t : Int)) = ((V * 251 + G * 13 + t : Nat) : Int) := by
  rw [w64 ((V : Int) * 251) (by omega) (by omega), w64 ((V : Int) * 251 + (G : Int) * 13) (by omega) (by omega), w64 _ (by omega) (by omega)]
  omega

theorem Src.set {w w' : World} {p k t t' : Nat} {a : Option Addr} {c : Nat} {z : Int} (h : Res3 w p (.slice a k c) (.int .i64 t) (.int .i64 z)) (hc : k ≤ c)
    (hb : 0 < k → ∃ b off, a = some ⟨b, off, none⟩ ∧ b < p ∧ ∃ g : Nat → Nat, ∀ i, i < k → g i < 256 ∧ w.cell? ⟨b, off + i, none⟩ = some (.int .u8 (g i)))
    (e : w' = w.setCell ⟨p, 1, none⟩ (.int .i64 ((t : Int) + 1))) (ht : t' = t + 1) : Src w' p k t' ∧ Only p w w' := by
  subst e ht
  have ho : Only p w (w.setCell ⟨p, 1, none⟩ (.int .i64 ((t : Int) + 1))) := Only.setCell w ⟨p, 1, none⟩ _
  refine ⟨⟨a, c, z, ?_, hc, fun hk => ?_⟩, ho⟩
  · obtain ⟨c0, c1, c2, f0, f1, f2, lt⟩ := h
    have n0 : (⟨p, 1, none⟩ : Addr) ≠ ⟨p, 0, none⟩ := by simp
    have n2 : (⟨p, 1, none⟩ : Addr) ≠ ⟨p, 2, none⟩ := by simp
    exact ⟨(World.cell?_setCell_other _ _ _ _ n0).trans c0, World.cell?_setCell_same _ _ _ c1, (World.cell?_setCell_other _ _ _ _ n2).trans c2, by rw [World.frozen?_setCell]; exact f0, by rw [World.frozen?_setCell]; exact f1, by rw [World.frozen?_setCell]; exact f2, by simpa [World.setCell] using lt⟩
  · obtain ⟨b, off, e, h4, g, h5⟩ := hb hk
    exact ⟨b, off, e, h4, g, fun i hi => ⟨(h5 i hi).1, (ho.cell _ _ (by omega)).trans (h5 i hi).2⟩⟩
theorem Src.drewN {w p k t} (h : Src w p k t) (q : Nat) : Src (w.drewN q) p k t := h.below ⟨rfl, rfl, rfl, Nat.le_refl _, fun _ _ => rfl⟩

theorem Src.up {w w' p k t B} (h : Src w p k t) (hb : Below B w w') (hp : p < B) : Src w' p k t := by
  obtain ⟨a, c, z, h1, h2, h3⟩ := h
  have e := hb.block p hp
  refine ⟨a, c, z, ?_, h2, fun hk => ?_⟩
  · obtain ⟨c0, c1, c2, f0, f1, f2, lt⟩ := h1
    refine ⟨?_, ?_, ?_, ?_, ?_, ?_, by have := hb.size; omega⟩
    · rw [← c0]; simp only [World.cell?]; rw [e]
    · rw [← c1]; simp only [World.cell?]; rw [e]
    · rw [← c2]; simp only [World.cell?]; rw [e]
    · rw [← f0]; simp only [World.frozen?]; rw [e]
    · rw [← f1]; simp only [World.frozen?]; rw [e]
    · rw [← f2]; simp only [World.frozen?]; rw [e]
  · obtain ⟨b, off, e, h4, g, h5⟩ := h3 hk
    exact ⟨b, off, e, h4, g, fun i hi => ⟨(h5 i hi).1, (hb.cell (show b < B by omega)).trans (h5 i hi).2⟩⟩

theorem tmod_ex (X : Int) (n : Nat) (hX : 0 ≤ X) (hn : 0 < n) : ∃ r : Nat, r < n ∧ X.tmod (n : Int) = (r : Int) := by
  obtain ⟨x, rfl⟩ := Int.eq_ofNat_of_zero_le hX
  exact ⟨x % n, Nat.mod_lt _ hn, rfl⟩

set_option maxHeartbeats 400000 in
set_option maxRecDepth 100000 in
theorem next_any (p k t n : Nat) (w : World) (hS : Src w p k t) (hk : k ≤ 2000000) (ht : t < 100000) (hn : 0 < n) (hn' : n ≤ 1000) :
    Calls Try.prog 17 #[.pointer (some ⟨p, 0, none⟩), .int .i64 n] w fun e w' => ∃ r : Nat, r < n ∧ e = .returned (.int .i64 r) ∧ Src w' p k (t + 1) ∧ Only p w w' := by
  obtain ⟨a, c, z, hr, hc, hb⟩ := hS
  have HE := hide (Src.set (w' := w.setCell ⟨p, 1, none⟩ (.int .i64 ((t : Int) + 1))) (t' := t + 1) hr hc hb rfl rfl)
  obtain ⟨c0, c1, c2, f0, f1, f2, lt⟩ := hr
  rcases Nat.eq_zero_or_pos k with h0 | hp
  · have hkb : ((k : Int) == 0) = true := by simp [h0]
    clear hb h0
    go_enter Try.func17, Try.ntmps17
    go_wp2_with fail
    go_ret
    exact ⟨t * 7 % n, Nat.mod_lt _ hn, by simp, HE.out.1, HE.out.2⟩
  · have hkb : ((k : Int) == 0) = false := by simp; omega
    obtain ⟨b, off, rfl, hlt, g, hg⟩ := hb hp
    have hne : b ≠ p := by omega
    clear hlt
    have g1 := (hg (t % k) (Nat.mod_lt _ hp)).2
    have l1 : t % k < k := Nat.mod_lt _ hp
    have g3 := (hg (t % k) (Nat.mod_lt _ hp)).1
    obtain ⟨J, hJ, g2, l2, g4⟩ : ∃ J : Nat, ((t : Int) + 1) % (k : Int) = (J : Int) ∧ w.cell? ⟨b, off + J, none⟩ = some (.int .u8 (g J)) ∧ J < k ∧ g J < 256 := ⟨(t + 1) % k, rfl, (hg _ (Nat.mod_lt _ hp)).2, Nat.mod_lt _ hp, (hg _ (Nat.mod_lt _ hp)).1⟩
    obtain ⟨Q, HQ, Q1⟩ : ∃ Q : Nat, Hid ((t : Int) / (k : Int) = (Q : Int)) ∧ Q < 100000 := ⟨t / k, rfl, Nat.lt_of_le_of_lt (Nat.div_le_self _ _) ht⟩
    clear hb hg
    by_cases hbig : 200 < n
    · go_enter Try.func17, Try.ntmps17
      go_wp2_with fail
      go_quiet (fail)
      rw [HQ.out]
      go_wp2_with fail
      go_region
      go_wp2_with fail
      go_ret
      rw [drawn1 _ _ g3 Q1, drawn2 _ _ _ (by omega) g4 ht]
      obtain ⟨r, hr1, hr2⟩ := tmod_ex (((g (t % k) + Q * 37) * 251 + g J * 13 + t : Nat) : Int) n (by omega) hn
      exact ⟨r, hr1, by rw [hr2]; rfl, HE.out.1.drewN _, HE.out.2.drewN _⟩
    · clear hJ g2 l2 g4
      go_enter Try.func17, Try.ntmps17
      go_wp2_with fail
      go_quiet (fail)
      rw [HQ.out]
      go_wp2_with fail
      go_ret
      rw [drawn1 _ _ g3 Q1]
      obtain ⟨r, hr1, hr2⟩ := tmod_ex ((g (t % k) + Q * 37 : Nat) : Int) n (by omega) hn
      exact ⟨r, hr1, by rw [hr2]; rfl, HE.out.1.drewN _, HE.out.2.drewN _⟩


set_option maxHeartbeats 400000 in
theorem chance_any (p k t n : Nat) (w : World) (hS : Src w p k t) (hk : k ≤ 2000000) (ht : t < 100000) (hn : 0 < n) (hn' : n ≤ 1000) :
    Calls Try.prog 12 #[.pointer (some ⟨p, 0, none⟩), .int .i64 n] w fun e w' => ∃ r : Bool, e = .returned (.bool r) ∧ Src w' p k (t + 1) ∧ Only p w w' := by
  go_enter Try.func12, Try.ntmps12
  go_wp2_with fail
  refine (next_any p k t n w hS hk ht hn hn').mono ?_
  rintro e w1 ⟨r, hr, rfl, hS1, ho⟩
  go_wp2_with fail
  go_ret
  exact ⟨_, rfl, hS1, ho⟩

set_option maxHeartbeats 400000 in
theorem source_any (a : Option Addr) (k c : Nat) (w : World) (hk : k ≤ 2000000) (hc : k ≤ c)
    (hb : 0 < k → ∃ b off, a = some ⟨b, off, none⟩ ∧ ∃ g : Nat → Nat, ∀ i, i < k → g i < 256 ∧ w.cell? ⟨b, off + i, none⟩ = some (.int .u8 (g i))) :
    Calls Try.prog 10 #[.slice a k c] w fun e w' => e = .returned (.pointer (some ⟨w.heap.size, 0, none⟩)) ∧ Src w' w.heap.size k 0 ∧ Below w.heap.size w w' := by
  have HE : ∀ z : Int, Hid (Src (w.alloc (.cells #[.slice a k c, .int .i64 0, .int .i64 z] 40)) w.heap.size k 0) := fun z =>
    ⟨a, c, z, Res3.start w _ _ _ 40, hc, fun hk => by
      obtain ⟨b, off, e, g, h5⟩ := hb hk
      have hl : b < w.heap.size := block_lt_of_cell (h5 0 hk).2
      exact ⟨b, off, e, by omega, g, fun i hi => ⟨(h5 i hi).1, ((below_alloc1 w _).cell hl).trans (h5 i hi).2⟩⟩⟩
  clear hb
  go_enter Try.func10, Try.ntmps10
  go_wp2_with fail
  all_goals
    go_ret
    exact ⟨rfl, (HE _).out, below_alloc1 _ _⟩
end Go.Proofs.Ytpgbaidkhjaocaa.D
