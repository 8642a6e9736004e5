import Derived.Test.YtpcnmolncoaddaaQS
import Derived.Test.YtpcnmolncoaddaaRead5
import Derived.Test.YtpcnmolncoaddaaNum
namespace Go.Proofs.Ytpcnmolncoaddaa
open Go.RowKit Go.Joins

/-- Of the blocks that were there only p has changed. -/
structure Dr (p : Nat) (w w' : World) : Prop where
  bel : Below p w w'
  up : ∀ b, p < b → b < w.heap.size → w'.heap[b]? = w.heap[b]?

theorem Dr.size {p w w'} (h : Dr p w w') : w.heap.size ≤ w'.heap.size := h.bel.size
theorem Dr.refl (p w) : Dr p w w := ⟨Below.refl _ _, fun _ _ _ => rfl⟩
theorem Dr.trans {p a b c} (h : Dr p a b) (k : Dr p b c) : Dr p a c := ⟨h.bel.trans k.bel, fun i h1 h2 => (k.up i h1 (by have := h.size; omega)).trans (h.up i h1 h2)⟩
theorem Dr.below {p w w'} (h : Below w.heap.size w w') (hp : p ≤ w.heap.size) : Dr p w w' := ⟨h.mono hp, fun b _ h2 => h.block b h2⟩
theorem Dr.only {p w w'} (h : Only p w w') : Dr p w w' := ⟨h.below (Nat.le_refl _), fun b h1 _ => h.block b (by omega)⟩
theorem Dr.eq {p w w' b} (h : Dr p w w') (hb : b < w.heap.size) (hn : b ≠ p) : w'.heap[b]? = w.heap[b]? := by
  by_cases hl : b < p
  · exact h.bel.block b hl
  · exact h.up b (by omega) hb
theorem Dr.cell {p w w' b o} (h : Dr p w w') (hb : b < w.heap.size) (hn : b ≠ p) : w'.cell? ⟨b, o, none⟩ = w.cell? ⟨b, o, none⟩ := by simp only [World.cell?]; rw [h.eq hb hn]
theorem Dr.frozen {p w w' b o} (h : Dr p w w') (hb : b < w.heap.size) (hn : b ≠ p) : w'.frozen? ⟨b, o, none⟩ = w.frozen? ⟨b, o, none⟩ := by simp only [World.frozen?]; rw [h.eq hb hn]

theorem Own.dr {B w w' v n f p} (h : Own B w v n f) (hd : Dr p w w') (hp : p < B) : Own B w' v n f := by
  obtain ⟨a, c, rfl, h1, h2, h3, h4⟩ := h
  refine ⟨a, c, rfl, h1, h2, h3, fun hn => ?_⟩
  obtain ⟨b, off, rfl, h7, h5, h6⟩ := h4 hn
  have hb : b < w.heap.size := block_lt_of_cell (h5 0 hn)
  exact ⟨b, off, rfl, h7, fun i hi => (hd.cell hb (by omega)).trans (h5 i hi), fun i hi => (hd.frozen hb (by omega)).trans (h6 i hi)⟩
theorem Row.dr {B w w' v n f p} (h : Row B w v n f) (hd : Dr p w w') (hp : p < B) : Row B w' v n f := by
  obtain ⟨h1, h2⟩ := h
  rcases h2 with ⟨rfl, rfl⟩ | ⟨g, cap, cur, rfl, hb, hg, hn, hc, hs, ht⟩
  · exact ⟨h1, .inl ⟨rfl, rfl⟩⟩
  · have hl : g < w.heap.size := by
      apply Decidable.byContradiction
      intro hx
      rw [Array.getElem?_eq_none (by omega)] at hg
      cases hg
    exact ⟨h1, .inr ⟨g, cap, cur, rfl, hb, (hd.eq hl (by omega)).trans hg, hn, hc, hs, ht⟩⟩

/-- A source of draws at block p: k bytes, read as far as t. -/
def Src (w : World) (p k t : Nat) : Prop :=
  ∃ (a : Option Addr) (c : Nat) (z : Int), Res3 w p (.slice a k c) (.int .i64 t) (.int .i64 z) ∧ k ≤ c ∧
    (0 < k → ∃ b off, a = some ⟨b, off, none⟩ ∧ b < p ∧ ∃ g : Nat → Nat, ∀ i, i < k → g i < 256 ∧ w.cell? ⟨b, off + i, none⟩ = some (.int .u8 (g i)))

theorem Src.lt {w p k t} (h : Src w p k t) : p < w.heap.size := by obtain ⟨a, c, z, h1, _⟩ := h; exact h1.lt
theorem Src.below {w w' p k t} (h : Src w p k t) (hb : Below w.heap.size w w') : Src w' p k t := by
  obtain ⟨a, c, z, h1, h2, h3⟩ := h
  refine ⟨a, c, z, h1.next hb, h2, fun hk => ?_⟩
  obtain ⟨b, off, e, h4, g, h5⟩ := h3 hk
  exact ⟨b, off, e, h4, g, fun i hi => ⟨(h5 i hi).1, (hb.cell (block_lt_of_cell (h5 i hi).2)).trans (h5 i hi).2⟩⟩

theorem w64 (x : Int) (h0 : 0 ≤ x) (h1 : x < 10000000000) : wrap64 x = x := by
  have e1 : (-9223372036854775808 : Int) ≤ x := by omega
  have e2 : x ≤ (9223372036854775807 : Int) := by omega
  exact IntWalk.wrap64_in _ ⟨e1, e2⟩
theorem drawn1 (G Q : Nat) (hG : G < 256) (hQ : Q < 100000) : wrap64 ((G : Int) + wrap64 (wrap64 (Q : Int) * 37)) = ((G + Q * 37 : Nat) : Int) := by
  rw [w64 (Q : Int) (by omega) (by omega), w64 ((Q : Int) * 37) (by omega) (by omega), w64 _ (by omega) (by omega)]
  omega
theorem drawn2 (V G t : Nat) (hV : V < 5000000) (hG : G < 256) (ht : t < 100000) : wrap64 (wrap64 (wrap64 ((V : Int) * 251) + (G : Int) * 13) + (t : Int)) = ((V * 251 + G * 13 + t : Nat) : Int) := by
  rw [w64 ((V : Int) * 251) (by omega) (by omega), w64 ((V : Int) * 251 + (G : Int) * 13) (by omega) (by omega), w64 _ (by omega) (by omega)]
  omega

theorem Src.set {w w' : World} {p k t t' : Nat} {a : Option Addr} {c : Nat} {z : Int} (h : Res3 w p (.slice a k c) (.int .i64 t) (.int .i64 z)) (hc : k ≤ c)
    (hb : 0 < k → ∃ b off, a = some ⟨b, off, none⟩ ∧ b < p ∧ ∃ g : Nat → Nat, ∀ i, i < k → g i < 256 ∧ w.cell? ⟨b, off + i, none⟩ = some (.int .u8 (g i)))
    (e : w' = w.setCell ⟨p, 1, none⟩ (.int .i64 ((t : Int) + 1))) (ht : t' = t + 1) : Src w' p k t' ∧ Only p w w' := by
  subst e ht
  have ho : Only p w (w.setCell ⟨p, 1, none⟩ (.int .i64 ((t : Int) + 1))) := Only.setCell w ⟨p, 1, none⟩ _
  refine ⟨⟨a, c, z, ?_, hc, fun hk => ?_⟩, ho⟩
  · obtain ⟨c0, c1, c2, f0, f1, f2, lt⟩ := h
    have n0 : (⟨p, 1, none⟩ : Addr) ≠ ⟨p, 0, none⟩ := by simp
    have n2 : (⟨p, 1, none⟩ : Addr) ≠ ⟨p, 2, none⟩ := by simp
    exact ⟨(World.cell?_setCell_other _ _ _ _ n0).trans c0, World.cell?_setCell_same _ _ _ c1, (World.cell?_setCell_other _ _ _ _ n2).trans c2, by rw [World.frozen?_setCell]; exact f0, by rw [World.frozen?_setCell]; exact f1, by rw [World.frozen?_setCell]; exact f2, by simpa [World.setCell] using lt⟩
  · obtain ⟨b, off, e, h4, g, h5⟩ := hb hk
    exact ⟨b, off, e, h4, g, fun i hi => ⟨(h5 i hi).1, (ho.cell _ _ (by omega)).trans (h5 i hi).2⟩⟩
theorem Src.drewN {w p k t} (h : Src w p k t) (q : Nat) : Src (w.drewN q) p k t := h.below ⟨rfl, rfl, rfl, Nat.le_refl _, fun _ _ => rfl⟩

theorem Src.up {w w' p k t B} (h : Src w p k t) (hb : Below B w w') (hp : p < B) : Src w' p k t := by
  obtain ⟨a, c, z, h1, h2, h3⟩ := h
  have e := hb.block p hp
  refine ⟨a, c, z, ?_, h2, fun hk => ?_⟩
  · obtain ⟨c0, c1, c2, f0, f1, f2, lt⟩ := h1
    refine ⟨?_, ?_, ?_, ?_, ?_, ?_, by have := hb.size; omega⟩
    · rw [← c0]; simp only [World.cell?]; rw [e]
    · rw [← c1]; simp only [World.cell?]; rw [e]
    · rw [← c2]; simp only [World.cell?]; rw [e]
    · rw [← f0]; simp only [World.frozen?]; rw [e]
    · rw [← f1]; simp only [World.frozen?]; rw [e]
    · rw [← f2]; simp only [World.frozen?]; rw [e]
  · obtain ⟨b, off, e, h4, g, h5⟩ := h3 hk
    exact ⟨b, off, e, h4, g, fun i hi => ⟨(h5 i hi).1, (hb.cell (show b < B by omega)).trans (h5 i hi).2⟩⟩

theorem tmod_ex (X : Int) (n : Nat) (hX : 0 ≤ X) (hn : 0 < n) : ∃ r : Nat, r < n ∧ X.tmod (n : Int) = (r : Int) := by
  obtain ⟨x, rfl⟩ := Int.eq_ofNat_of_zero_le hX
  exact ⟨x % n, Nat.mod_lt _ hn, rfl⟩

set_option maxHeartbeats 400000 in
set_option maxRecDepth 100000 in
theorem next_any (p k t n : Nat) (w : World) (hS : Src w p k t) (hk : k ≤ 2000000) (ht : t < 100000) (hn : 0 < n) (hn' : n ≤ 1000) :
    Calls Try.prog 61 #[.pointer (some ⟨p, 0, none⟩), .int .i64 n] w fun e w' => ∃ r : Nat, r < n ∧ e = .returned (.int .i64 r) ∧ Src w' p k (t + 1) ∧ Only p w w' := by
  obtain ⟨a, c, z, hr, hc, hb⟩ := hS
  have HE := hide (Src.set (w' := w.setCell ⟨p, 1, none⟩ (.int .i64 ((t : Int) + 1))) (t' := t + 1) hr hc hb rfl rfl)
  obtain ⟨c0, c1, c2, f0, f1, f2, lt⟩ := hr
  rcases Nat.eq_zero_or_pos k with h0 | hp
  · have hkb : ((k : Int) == 0) = true := by simp [h0]
    clear hb h0
    go_enter Try.func61, Try.ntmps61
    go_wp2_with fail
    go_ret
    exact ⟨t * 7 % n, Nat.mod_lt _ hn, by simp, HE.out.1, HE.out.2⟩
  · have hkb : ((k : Int) == 0) = false := by simp; omega
    obtain ⟨b, off, rfl, hlt, g, hg⟩ := hb hp
    have hne : b ≠ p := by omega
    clear hlt
    have g1 := (hg (t % k) (Nat.mod_lt _ hp)).2
    have l1 : t % k < k := Nat.mod_lt _ hp
    have g3 := (hg (t % k) (Nat.mod_lt _ hp)).1
    obtain ⟨J, hJ, g2, l2, g4⟩ : ∃ J : Nat, ((t : Int) + 1) % (k : Int) = (J : Int) ∧ w.cell? ⟨b, off + J, none⟩ = some (.int .u8 (g J)) ∧ J < k ∧ g J < 256 := ⟨(t + 1) % k, rfl, (hg _ (Nat.mod_lt _ hp)).2, Nat.mod_lt _ hp, (hg _ (Nat.mod_lt _ hp)).1⟩
    obtain ⟨Q, HQ, Q1⟩ : ∃ Q : Nat, Hid ((t : Int) / (k : Int) = (Q : Int)) ∧ Q < 100000 := ⟨t / k, rfl, Nat.lt_of_le_of_lt (Nat.div_le_self _ _) ht⟩
    clear hb hg
    by_cases hbig : 200 < n
    · go_enter Try.func61, Try.ntmps61
      go_wp2_with fail
      go_quiet (fail)
      rw [HQ.out]
      go_wp2_with fail
      go_region
      go_wp2_with fail
      go_ret
      rw [drawn1 _ _ g3 Q1, drawn2 _ _ _ (by omega) g4 ht]
      obtain ⟨r, hr1, hr2⟩ := tmod_ex (((g (t % k) + Q * 37) * 251 + g J * 13 + t : Nat) : Int) n (by omega) hn
      exact ⟨r, hr1, by rw [hr2]; rfl, HE.out.1.drewN _, HE.out.2.drewN _⟩
    · clear hJ g2 l2 g4
      go_enter Try.func61, Try.ntmps61
      go_wp2_with fail
      go_quiet (fail)
      rw [HQ.out]
      go_wp2_with fail
      go_ret
      rw [drawn1 _ _ g3 Q1]
      obtain ⟨r, hr1, hr2⟩ := tmod_ex ((g (t % k) + Q * 37 : Nat) : Int) n (by omega) hn
      exact ⟨r, hr1, by rw [hr2]; rfl, HE.out.1.drewN _, HE.out.2.drewN _⟩

end Go.Proofs.Ytpcnmolncoaddaa

namespace Go.Proofs.Ytpcnmolncoaddaa
open Go.RowKit Go.Joins

set_option maxHeartbeats 400000 in
theorem chance_any (p k t n : Nat) (w : World) (hS : Src w p k t) (hk : k ≤ 2000000) (ht : t < 100000) (hn : 0 < n) (hn' : n ≤ 1000) :
    Calls Try.prog 60 #[.pointer (some ⟨p, 0, none⟩), .int .i64 n] w fun e w' => ∃ r : Bool, e = .returned (.bool r) ∧ Src w' p k (t + 1) ∧ Only p w w' := by
  go_enter Try.func60, Try.ntmps60
  go_wp2_with fail
  refine (next_any p k t n w hS hk ht hn hn').mono ?_
  rintro e w1 ⟨r, hr, rfl, hS1, ho⟩
  go_wp2_with fail
  go_ret
  exact ⟨_, rfl, hS1, ho⟩

set_option maxHeartbeats 400000 in
theorem source_any (a : Option Addr) (k c : Nat) (w : World) (hk : k ≤ 2000000) (hc : k ≤ c)
    (hb : 0 < k → ∃ b off, a = some ⟨b, off, none⟩ ∧ ∃ g : Nat → Nat, ∀ i, i < k → g i < 256 ∧ w.cell? ⟨b, off + i, none⟩ = some (.int .u8 (g i))) :
    Calls Try.prog 58 #[.slice a k c] w fun e w' => e = .returned (.pointer (some ⟨w.heap.size, 0, none⟩)) ∧ Src w' w.heap.size k 0 ∧ Below w.heap.size w w' := by
  have HE : ∀ z : Int, Hid (Src (w.alloc (.cells #[.slice a k c, .int .i64 0, .int .i64 z] 98)) w.heap.size k 0) := fun z =>
    ⟨a, c, z, Res3.start w _ _ _ 98, hc, fun hk => by
      obtain ⟨b, off, e, g, h5⟩ := hb hk
      have hl : b < w.heap.size := block_lt_of_cell (h5 0 hk).2
      exact ⟨b, off, e, by omega, g, fun i hi => ⟨(h5 i hi).1, ((below_alloc1 w _).cell hl).trans (h5 i hi).2⟩⟩⟩
  clear hb
  go_enter Try.func58, Try.ntmps58
  go_wp2_with fail
  all_goals
    go_ret
    exact ⟨rfl, (HE _).out, below_alloc1 _ _⟩

end Go.Proofs.Ytpcnmolncoaddaa

namespace Go.Proofs.Ytpcnmolncoaddaa
open Go.RowKit Go.Joins

/-- Two cells that may be written. -/
structure Bx (wx : World) (b : Nat) (x0 x1 : Value) : Prop where
  c0 : wx.cell? ⟨b, 0, none⟩ = some x0
  c1 : wx.cell? ⟨b, 1, none⟩ = some x1
  f0 : wx.frozen? ⟨b, 0, none⟩ = false
  f1 : wx.frozen? ⟨b, 1, none⟩ = false
  lt : b < wx.heap.size
theorem Bx.start (w : World) (x0 x1 : Value) (t : TypeId) : Bx (w.alloc (.cells #[x0, x1] t)) w.heap.size x0 x1 := ⟨by simp, by simp, by simp, by simp, by simp⟩
theorem Bx.dr {w w' b x0 x1 p} (h : Bx w b x0 x1) (hd : Dr p w w') (hb : b ≠ p) : Bx w' b x0 x1 :=
  ⟨(hd.cell h.lt hb).trans h.c0, (hd.cell h.lt hb).trans h.c1, (hd.frozen h.lt hb).trans h.f0, (hd.frozen h.lt hb).trans h.f1, by have := hd.size; have := h.lt; omega⟩
theorem Bx.keep {w w' b x0 x1} (h : Bx w b x0 x1) (hk : w'.heap[b]? = w.heap[b]?) (hz : w.heap.size ≤ w'.heap.size) : Bx w' b x0 x1 := by
  obtain ⟨c0, c1, f0, f1, lt⟩ := h
  refine ⟨?_, ?_, ?_, ?_, by omega⟩
  · rw [← c0]; simp only [World.cell?]; rw [hk]
  · rw [← c1]; simp only [World.cell?]; rw [hk]
  · rw [← f0]; simp only [World.frozen?]; rw [hk]
  · rw [← f1]; simp only [World.frozen?]; rw [hk]
theorem Bx.next {w w' b x0 x1} (h : Bx w b x0 x1) (hb : Below w.heap.size w w') : Bx w' b x0 x1 := h.keep (hb.block _ h.lt) hb.size

theorem Row.keepB {B w w' v n f} (h : Row B w v n f) (hk : ∀ b, B ≤ b → b < w.heap.size → w'.heap[b]? = w.heap[b]?) : Row B w' v n f := by
  obtain ⟨h1, h2⟩ := h
  rcases h2 with ⟨rfl, rfl⟩ | ⟨g, cap, cur, rfl, hb, hg, hn, hc, hs, ht⟩
  · exact ⟨h1, .inl ⟨rfl, rfl⟩⟩
  · have hl : g < w.heap.size := by
      apply Decidable.byContradiction
      intro hx
      rw [Array.getElem?_eq_none (by omega)] at hg
      cases hg
    exact ⟨h1, .inr ⟨g, cap, cur, rfl, hb, (hk g hb hl).trans hg, hn, hc, hs, ht⟩⟩

theorem Dr.below' {p w w1 w2} (h : Dr p w w1) (hb : Below w.heap.size w1 w2) (hp : p ≤ w.heap.size) : Dr p w w2 := ⟨h.bel.trans (hb.mono hp), fun b h1 h2 => (hb.block b h2).trans (h.up b h1 h2)⟩

theorem fault_trim (r : Bool) (f : Nat → Nat) (i : Nat) (hi : i ≤ 40) : faultB (r && decide (0 < trimN f i)) (trimN f i) f = false := by
  have h1 := trimN_le f i
  unfold faultB
  split
  · have : ¬ 0 < trimN f i := by omega
    simp [this]
  · have h2 := trimN_top f i (by omega)
    have h3 : ¬ 40 < trimN f i := by omega
    simp [h3, h2]

theorem or24 (a b : Nat) (ha : a < 256) (hb : b < 256) : ∃ X : Nat, bits BinOp.or IntKind.u32 (a : Int) ((b : Int) * 16777216) = (X : Int) ∧ X < 4294967296 := by
  refine ⟨b * 16777216 + a, ?_, by omega⟩
  have e : (b : Int) * 16777216 = ((b * 16777216 : Nat) : Int) := by omega
  rw [e, u32_or_nat _ _ (by omega) (by omega), Nat.or_comm]
  have := Nat.two_pow_add_eq_or_of_lt (i := 24) (b := a) (by omega) b
  rw [show 2 ^ 24 * b = b * 16777216 from by omega] at this
  rw [this]

set_option maxHeartbeats 2000000 in
set_option maxRecDepth 100000 in
theorem drawBig_any (p k t : Nat) (w : World) (hS : Src w p k t) (hk : k ≤ 2000000) (ht : t < 50000) :
    Calls Try.prog 89 #[.pointer (some ⟨p, 0, none⟩)] w fun e w' => ∃ (m : Bool) (v : Value) (n : Nat) (f : Nat → Nat) (t' : Nat), e = .returned (.agg #[.bool m, v]) ∧ Row w.heap.size w' v n f ∧ (∀ j, j < n → f j < 4294967296) ∧ faultB m n f = false ∧ Src w' p k t' ∧ t' ≤ t + 1000 ∧ Dr p w w' := by
  have hp := hS.lt
  have hS0 := hS.below (below_alloc1 w (.cells #[.bool false, .slice none 0 0] 25))
  have hd0 : Dr p w (w.alloc (.cells #[.bool false, .slice none 0 0] 25)) := Dr.below (below_alloc1 _ _) (by omega)
  have hx0 := Bx.start w (.bool false) (.slice none 0 0) 25
  go_enter Try.func89, Try.ntmps89
  go_wp2_with fail
  refine (next_any p k t 4 _ hS0 hk (by omega) (by decide) (by decide)).mono ?_
  rintro e w1 ⟨n0, hn0, rfl, hS1, ho1⟩
  have hd1 := hd0.trans (Dr.only ho1)
  have hx1 := hx0.dr (Dr.only ho1) (by omega)
  clear hS hS0 hd0 hx0 ho1
  go_wp2_with fail
  refine (chance_any p k (t + 1) 12 _ hS1 hk (by omega) (by decide) (by decide)).mono ?_
  rintro e w2 ⟨r2, rfl, hS2, ho2⟩
  have hd2 := hd1.trans (Dr.only ho2)
  have hx2 := hx1.dr (Dr.only ho2) (by omega)
  clear hS1 hd1 hx1 ho2
  go_upto_if 10 with fail
  go_cut [3] (fun s3 wx => ∃ N tt : Nat, N ≤ 40 ∧ s3 = .int .i64 N ∧ Src wx p k tt ∧ tt ≤ t + 3 ∧ Dr p w wx ∧ Bx wx w.heap.size (.bool false) (.slice none 0 0))
  case first =>
    cases r2
    · go_wp2_with fail
      go_meet
      case rel => exact ⟨n0, t + 2, by omega, rfl, hS2, by omega, hd2, hx2⟩
    · go_wp2_with fail
      refine (next_any p k (t + 2) 2 _ hS2 hk (by omega) (by decide) (by decide)).mono ?_
      rintro e w3 ⟨n3, hn3, rfl, hS3, ho3⟩
      go_wp2_with fail
      go_meet
      case rel => exact ⟨40 - n3, t + 3, by omega, by go_num, hS3, by omega, hd2.trans (Dr.only ho3), hx2.dr (Dr.only ho3) (by omega)⟩
  case rest =>
    obtain ⟨N, tt, hN, rfl, hS3, htt, hd3, hx3⟩ := hcut
    clear hS2 hd2 hx2
    go_wp2_with fail
    have hz3 := hd3.size
    have hl3 := hx3.lt
    go_loopw [4, 5, 6] (fun s4 s5 _ wr => ∃ (i tx : Nat) (f : Nat → Nat), i ≤ N ∧ s5 = .int .i64 i ∧ Row (w.heap.size + 1) wr s4 i f ∧ (∀ j, j < i → f j < 4294967296) ∧ Src wr p k tx ∧ tx ≤ t + 3 + 10 * i ∧ Dr p w wr ∧ Bx wr w.heap.size (.bool false) (.slice none 0 0)) (fun _ s5 _ _ => N - (intOf s5).toNat)
    case atStart =>
      exact ⟨0, tt, fun _ => 0, by omega, rfl, (Row.empty wc _).less (by omega), fun j hj => by omega, hS3.below (below_alloc1 _ _), by omega, hd3.trans (Dr.below (below_alloc1 _ _) (by omega)), hx3.next (below_alloc1 _ _)⟩
    case round =>
      obtain ⟨i, tx, f, hi, rfl, hrow, hf, hS4, htx, hd4, hx4⟩ := hrel
      clear hS3 hd3 hx3
      by_cases hlt : i < N
      · go_wp2_with fail
        refine (next_any p k tx 256 _ hS4 hk (by omega) (by decide) (by decide)).mono ?_
        rintro e w5 ⟨r5, hr5, rfl, hS5, ho5⟩
        have hd5 := hd4.trans (Dr.only ho5)
        have hx5 := hx4.dr (Dr.only ho5) (by omega)
        have hrow5 := hrow.dr (Dr.only ho5) (by omega)
        clear hS4 hd4 hx4 hrow ho5
        go_wp2_with fail
        refine (next_any p k (tx + 1) 256 _ hS5 hk (by omega) (by decide) (by decide)).mono ?_
        rintro e w6 ⟨r6, hr6, rfl, hS6, ho6⟩
        have hd6 := hd5.trans (Dr.only ho6)
        have hx6 := hx5.dr (Dr.only ho6) (by omega)
        have hrow6 := hrow5.dr (Dr.only ho6) (by omega)
        clear hS5 hd5 hx5 hrow5 ho6
        go_wp2_with fail
        refine (chance_any p k (tx + 1 + 1) 4 _ hS6 hk (by omega) (by decide) (by decide)).mono ?_
        rintro e w7 ⟨r7, rfl, hS7, ho7⟩
        have hd7 := hd6.trans (Dr.only ho7)
        have hx7 := hx6.dr (Dr.only ho7) (by omega)
        have hrow7 := hrow6.dr (Dr.only ho7) (by omega)
        clear hS6 hd6 hx6 hrow6 ho7
        obtain ⟨X, hX, hX1⟩ : ∃ X : Nat, bits BinOp.or IntKind.u32 (r5 : Int) ((r6 : Int) * 16777216) = (X : Int) ∧ X < 4294967296 := or24 r5 r6 hr5 hr6
        have hz7 := hd7.size
        have hl7 := hx7.lt
        cases r7
        · go_wp2_with (at_builtin; (with_reducible refine wpList_appendU (.tmp 35) (.tmp 37) (w.heap.size + 1) _ _ i 1 f (fun _ => X) (Row.alloc hrow7 _) (lim_one w7 X _ _ rfl hX1 rfl) (nilOk_some _ _ _) ?_ ?_ ?_ ?_ ?_ ?_ ?_); omega; (simp; omega); rfl; rfl; rfl; rfl; intro v' w' hr hb)
          have hb9 := ((below_alloc1 w7 _).mono (show w.heap.size + 1 ≤ _ by omega)).trans hb
          have hz9 := hb9.size
          go_roundw
          case rel => exact ⟨i + 1, tx + 1 + 1 + 1, fun j => if j < i then f j else X, by omega, by go_num, hr, fun j hj => by (dsimp only; split; exact hf j (by omega); exact hX1), hS7.up hb9 (by omega), by omega, hd7.below' (hb9.mono (by omega)) (by omega), hx7.keep (hb9.block _ (by omega)) hz9⟩
          case measure => simp [intOf]; omega
        · go_wp2_with fail
          refine (next_any p k (tx + 1 + 1 + 1) 4 _ (hS7.below (below_alloc1 _ _)) hk (by omega) (by decide) (by decide)).mono ?_
          rintro e w8 ⟨r8, hr8, rfl, hS8, ho8⟩
          have hd8 := (hd7.trans (Dr.below (below_alloc1 w7 _) (by omega))).trans (Dr.only ho8)
          have hx8 := (hx7.next (below_alloc1 w7 _)).dr (Dr.only ho8) (by omega)
          have hrow8 := (hrow7.alloc _).dr (Dr.only ho8) (by omega)
          have hz8 := hd8.size
          have hl8 := hx8.lt
          obtain ⟨Y, hY, hY1⟩ : ∃ Y : Nat, w8.cell? ⟨w7.heap.size, r8, none⟩ = some (.int .u32 Y) ∧ Y < 4294967296 := by
            rw [ho8.cell _ _ (by omega)]
            match r8, hr8 with
            | 0, _ => exact ⟨0, by simp, by decide⟩
            | 1, _ => exact ⟨1, by simp, by decide⟩
            | 2, _ => exact ⟨4294967295, by simp, by decide⟩
            | 3, _ => exact ⟨2147483648, by simp, by decide⟩
          clear hS7 hd7 hx7 hrow7 ho8 hX
          go_wp2_with (at_builtin; (with_reducible refine wpList_appendU (.tmp 35) (.tmp 37) (w.heap.size + 1) _ _ i 1 f (fun _ => Y) (Row.alloc hrow8 _) (lim_one w8 Y _ _ rfl hY1 rfl) (nilOk_some _ _ _) ?_ ?_ ?_ ?_ ?_ ?_ ?_); omega; (simp; omega); rfl; rfl; rfl; rfl; intro v' w' hr hb)
          have hb9 := ((below_alloc1 w8 _).mono (show w.heap.size + 1 ≤ _ by omega)).trans hb
          have hz9 := hb9.size
          go_roundw
          case rel => exact ⟨i + 1, tx + 1 + 1 + 1 + 1, fun j => if j < i then f j else Y, by omega, by go_num, hr, fun j hj => by (dsimp only; split; exact hf j (by omega); exact hY1), hS8.up hb9 (by omega), by omega, hd8.below' (hb9.mono (by omega)) (by omega), hx8.keep (hb9.block _ (by omega)) hz9⟩
          case measure => simp [intOf]; omega
      · have hiN : Hid (i = N) := by unfold Hid; omega
        have dl : decide ((i : Int) < (N : Int)) = false := by simp; omega
        go_wp2_with fail
        refine (chance_any p k tx 2 _ hS4 hk (by omega) (by decide) (by decide)).mono ?_
        rintro e w5 ⟨r5, rfl, hS5, ho5⟩
        have hd5 := hd4.trans (Dr.only ho5)
        have hx5 := hx4.dr (Dr.only ho5) (by omega)
        have hown := (hrow.dr (Dr.only ho5) (by omega)).own hf
        clear hS4 hd4 hx4 hrow ho5
        have hz5 := hd5.size
        have hl5 := hx5.lt
        go_wp2_with fail
        refine (trim_any hown.lim hown.nil (by omega)).mono ?_
        rintro e w6 ⟨v6, rfl, hrow6, hb6⟩
        have hfl : ∀ j, j < trimN f i → f j < 4294967296 := fun j hj => hf j (by have := trimN_le f i; omega)
        have hown6 := hrow6.own hfl
        obtain ⟨a6, c6, rfl, -⟩ := id hown6
        go_wp2_with fail
        refine (make_any r5 a6 _ c6 _).mono ?_
        rintro e w7 ⟨rfl, hb7⟩
        have hx7 := (hx5.next hb6).next hb7
        have hS7 := (hS5.below hb6).below hb7
        have hd7 := (hd5.trans (Dr.below hb6 (by omega))).trans (Dr.below hb7 (by have := hb6.size; omega))
        have y6 := hb6.size
        have y7 := hb7.size
        obtain ⟨c0, c1, f0, f1, lt⟩ := id hx7
        go_wp2_with fail
        have hbe : Below w.heap.size w7 ((w7.setCell ⟨w.heap.size, 0, none⟩ (.bool (r5 && decide (0 < trimN f i)))).setCell ⟨w.heap.size, 1, none⟩ (.slice a6 (trimN f i) c6)) := ((Below.refl _ _).setCell (by exact Nat.le_refl _) _).setCell (by exact Nat.le_refl _) _
        refine bodyPost_ret (v := .agg #[.bool (r5 && decide (0 < trimN f i)), .slice a6 (trimN f i) c6]) (by simp [results, Try.results89, go_sem, c0, c1]) rfl ⟨_, _, trimN f i, f, tx + 1, rfl, ?_, hfl, fault_trim r5 f i (by omega), ?_, by omega, ?_⟩
        · refine (hrow6.keepB fun b h1 h2 => ?_).less (by omega)
          rw [Below.heap_setCell _ _ _ _ (by show b ≠ w.heap.size; omega), Below.heap_setCell _ _ _ _ (by show b ≠ w.heap.size; omega)]
          exact hb7.block b h2
        · exact hS7.up hbe (by omega)
        · exact hd7.below' hbe (by omega)

end Go.Proofs.Ytpcnmolncoaddaa

namespace Go.Proofs.Ytpcnmolncoaddaa
open Go.RowKit Go.Joins

theorem half41 (W : World) : Half (W.alloc (.cells ((madeCells #[.int .u32 0] 41).setIfInBounds 40 (.int .u32 1)) 60)) W.heap.size 41 41 (upd (fun _ => 0) 40 1) := by
  refine ⟨_, heap_alloc_new _ _, by simp [size_madeCells], fun i hi => ?_⟩
  by_cases e : i = 40
  · subst e
    rw [Array.getElem?_setIfInBounds_self_of_lt (by rw [size_madeCells]; omega)]; simp [upd]
  · rw [Array.getElem?_setIfInBounds_ne (by omega)]
    simp only [upd, if_neg e]
    simp [madeCells, hi, Nat.mod_one]

theorem wpList_appendG {ops : Array Oper} {rest : List Oper} {o : Oper} {a : Act} {w : World} {Q : Exit → Act → World → Prop} (s x : Operand) (B b : Nat) (v : Value) (n m c : Nat) (f g : Nat → Nat)
    (hown : Row B w v n f) (hL : ∀ i, i < m → w.cell? ⟨b, i, none⟩ = some (.int .u32 (g i))) (hb : n + m ≤ 1073741824) (hbase : B ≤ w.heap.size)
    (hgd : o.guard = none) (ho : o.op = .call { callee := .builtin .append, args := #[s, x], argTypes := #[23, 23] }) (hs : a.eval s = v) (hx : a.eval x = .slice (some ⟨b, 0, none⟩) m c)
    (h : ∀ v' w', Row B w' v' (n + m) (fun i => if i < n then f i else g (i - n)) → w.grownBy w' v.ownBlock → wpList Try.prog ops Q rest (a.put o.dst v') w') : wpList Try.prog ops Q (o :: rest) a w := by
  obtain ⟨i0, hi, hz0, hz1, hz2⟩ := info_parts Try.info60
  refine wpList_append_own w hgd s x 23 ho B 60 i0 (.int .u32 0) 1 4 Try.underlying23 hi hz0 hz1 hz2 rfl (by decide) v n _ hs hown ⟨b, 0, none⟩ m c (U32s m g) hx (by rw [U32s_length]; omega) ?_ ?_ (by unfold maxLen; omega) (by omega) hbase ?_
  · intro j u hj
    have hjm : j < m := by have := (List.getElem?_eq_some_iff.1 hj).1; rwa [U32s_length] at this
    rw [U32s_get _ _ _ hjm] at hj
    rw [← hj, addAt, Nat.zero_add]
    exact hL j hjm
  · intro u hu
    simp only [U32s, List.mem_map] at hu
    obtain ⟨i, _, rfl⟩ := hu
    rfl
  · intro v' w' h5 h6 _
    rw [U32s_app] at h5
    exact h v' w' h5 h6

theorem one_cell (W : World) (i : Nat) (hi : i < 1) : (W.alloc (.cells #[.int .u32 0] 60)).cell? ⟨W.heap.size, i, none⟩ = some (.int .u32 (((fun _ => 0) i : Nat) : Int)) := by
  obtain rfl : i = 0 := by omega
  simp

/-- Of the blocks that were there only p and the slice's own have changed. -/
structure Al (p : Nat) (v : Value) (w w' : World) : Prop where
  os : w'.os = w.os
  tape : w'.tape = w.tape
  output : w'.output = w.output
  size : w.heap.size ≤ w'.heap.size
  block : ∀ b, b < w.heap.size → b ≠ p → v.ownBlock ≠ some b → w'.heap[b]? = w.heap[b]?

theorem Dr.al {p w w'} (h : Dr p w w') (v : Value) : Al p v w w' := ⟨h.bel.os, h.bel.tape, h.bel.output, h.size, fun _ h1 h2 _ => h.eq h1 h2⟩
theorem Al.trans {p v a b c} (h : Al p v a b) (k : Al p v b c) : Al p v a c :=
  ⟨k.os.trans h.os, k.tape.trans h.tape, k.output.trans h.output, Nat.le_trans h.size k.size, fun x h1 h2 h3 => (k.block x (by have := h.size; omega) h2 h3).trans (h.block x h1 h2 h3)⟩
theorem Al.grown {p v w w'} (h : w.grownBy w' v.ownBlock) : Al p v w w' := ⟨h.os, h.tape, h.output, h.size, fun b h1 _ h3 => h.block b h1 (fun e => h3 e.symm)⟩
theorem Al.below {p v w w' B} (h : Below B w w') (hB : w.heap.size ≤ B) : Al p v w w' := ⟨h.os, h.tape, h.output, h.size, fun b h1 _ _ => h.block b (by omega)⟩
theorem Al.up {p v w w1 w2 B} (h : Al p v w w1) (hb : Below B w1 w2) (hB : w.heap.size ≤ B) : Al p v w w2 :=
  ⟨hb.os.trans h.os, hb.tape.trans h.tape, hb.output.trans h.output, Nat.le_trans h.size hb.size, fun b h1 h2 h3 => (hb.block b (by omega)).trans (h.block b h1 h2 h3)⟩

theorem Row.ne {B w v n f b x} (h : Row B w v n f) (hn : 0 < n) (hc : w.cell? ⟨b, 0, none⟩ = some x) (hx : ∀ z, x ≠ .int .u32 z) : v.ownBlock ≠ some b := by
  obtain ⟨h1, h2⟩ := h
  rcases h2 with ⟨rfl, rfl⟩ | ⟨g, cap, cur, rfl, hb, hg, hn', hc', hs, ht⟩
  · intro e; cases e
  · intro e
    have : g = b := by simpa [Value.ownBlock] using e
    subst this
    rw [cell_of_block hg] at hc
    have e2 := congrArg (fun l => l[0]?) ht
    simp only [U32s_get _ _ _ hn] at e2
    rw [List.getElem?_take, if_pos (by omega)] at e2
    rw [Array.getElem?_toList] at e2
    rw [e2] at hc
    exact hx _ (Option.some.inj hc).symm

/-- A slice that begins where its block begins. -/
def Z0 (v : Value) : Prop := ∀ ad n c, v = .slice (some ad) n c → ad.off = 0
theorem Row.z0 {B w v n f} (h : Row B w v n f) : Z0 v := by
  obtain ⟨h1, h2⟩ := h
  rcases h2 with ⟨rfl, rfl⟩ | ⟨g, cap, cur, rfl, hb, hg, hn', hc', hs, ht⟩
  · intro ad n c e; cases e
  · intro ad n c e
    simp only [Value.slice.injEq, Option.some.injEq] at e
    rw [← e.1]
theorem Own.ne {B w v n f b x} (h : Own B w v n f) (hz : Z0 v) (hn : 0 < n) (hc : w.cell? ⟨b, 0, none⟩ = some x) (hx : ∀ z, x ≠ .int .u32 z) : v.ownBlock ≠ some b := by
  obtain ⟨a, c, rfl, h1, h2, h3, h4⟩ := h
  obtain ⟨b', off, rfl, h5, h6, h7⟩ := h4 hn
  intro e
  have eb : b' = b := by simpa [Value.ownBlock] using e
  subst eb
  have e0 : off = 0 := hz _ _ _ rfl
  subst e0
  have h8 := h6 0 hn
  rw [hc] at h8
  exact hx _ (Option.some.inj h8)

/-- What is known of the bent number while the boxes are written. -/
structure Tri (p k t B : Nat) (v v' : Value) (n' : Nat) (f' : Nat → Nat) (w wx : World) : Prop where
  own : Own B wx v' n' f'
  src : Src wx p k t
  al : Al p v w wx
theorem Tri.set {p k t B v v' n' f' w wx} (h : Tri p k t B v v' n' f' w wx) (q i : Nat) (u : Value) (hq : w.heap.size ≤ q) (hp : p < w.heap.size) (hne : 0 < n' → v'.ownBlock ≠ some q) : Tri p k t B v v' n' f' w (wx.setCell ⟨q, i, none⟩ u) :=
  have hb : Below w.heap.size wx (wx.setCell ⟨q, i, none⟩ u) := (Below.refl _ _).setCell (by exact hq) _
  ⟨h.own.setNe _ _ hne, h.src.up hb hp, h.al.up hb (Nat.le_refl _)⟩

set_option maxHeartbeats 2000000 in
set_option maxRecDepth 100000 in
theorem bendBig_any (p k t B : Nat) (m : Bool) (v : Value) (n : Nat) (f : Nat → Nat) (w : World) (hS : Src w p k t) (hk : k ≤ 2000000) (ht : t < 60000) (hrow : Row B w v n f) (hf : ∀ j, j < n → f j < 4294967296) (hn : n ≤ 40) (hpB : p < B) (hB : B ≤ w.heap.size) :
    Calls Try.prog 90 #[.pointer (some ⟨p, 0, none⟩), .agg #[.bool m, v]] w fun e w' => ∃ (m' : Bool) (v' : Value) (n' : Nat) (f' : Nat → Nat), e = .returned (.agg #[.bool m', v']) ∧ Own B w' v' n' f' ∧ n' ≤ 41 ∧ Z0 v' ∧ Src w' p k (t + 1) ∧ Al p v w w' := by
  have hp := hS.lt
  obtain ⟨a, c, rfl, -⟩ := id (hrow.own hf)
  have hb0 := below_alloc2 w (.cells #[.bool m, .slice a n c] 25) (.cells #[.bool false, .slice none 0 0] 25)
  have hS0 := hS.below hb0
  have hx0 := (Bx.start w (.bool m) (.slice a n c) 25).next (below_alloc1 _ (.cells #[.bool false, .slice none 0 0] 25))
  have hy0 := Bx.start (w.alloc (.cells #[.bool m, .slice a n c] 25)) (.bool false) (.slice none 0 0) 25
  have hr0 := (hrow.alloc (.cells #[.bool m, .slice a n c] 25)).alloc (.cells #[.bool false, .slice none 0 0] 25)
  simp only [World.size_alloc] at hy0
  have hlt := hrow.lt
  clear hrow
  go_enter Try.func90, Try.ntmps90
  go_wp2_with fail
  refine (next_any p k t 4 _ hS0 hk (by omega) (by decide) (by decide)).mono ?_
  rintro e w1 ⟨r1, hr1, rfl, hS1, ho1⟩
  have hd1 := Dr.only ho1
  have hx1 := hx0.dr hd1 (by omega)
  have hy1 := hy0.dr hd1 (by omega)
  have hrow1 := hr0.dr hd1 hpB
  have hz1 := hd1.size
  have hal : Al p (.slice a n c) w w1 := (Al.below hb0 (Nat.le_refl _)).trans (hd1.al _)
  simp only [World.size_alloc] at hz1
  clear hS hS0 hx0 hy0 hr0 hb0 ho1 hd1
  have hne : ∀ x, w.heap.size ≤ x → some x ≠ (Value.slice a n c).ownBlock := fun x hx e => by have := (hlt x e.symm).2; omega
  have HF := hide hf
  have HNE := hide hne
  have HLT := hide hlt
  clear hf hne hlt
  match r1, hr1 with
  | 0, _ =>
    have KEY : ∀ v' w', Row B w' v' (n + 1) (fun i => if i < n then f i else (fun _ => 0) (i - n)) → (w1.alloc (.cells #[.int .u32 0] 60)).grownBy w' (Value.slice a n c).ownBlock → ∃ a2 c2, v' = .slice a2 (n + 1) c2 ∧ Bx w' w.heap.size (.bool m) (.slice a n c) ∧ Bx w' (w.heap.size + 1) (.bool false) (.slice none 0 0) ∧ Tri p k (t + 1) B (.slice a n c) v' (n + 1) (fun i => if i < n then f i else 0) w w' ∧ v'.ownBlock ≠ some w.heap.size ∧ v'.ownBlock ≠ some (w.heap.size + 1) ∧ Z0 v' := by
      intro v' w' hr hg
      have hx2 := (hx1.next (below_alloc1 w1 (.cells #[.int .u32 0] 60))).keep (hg.block _ (by simp only [World.size_alloc]; omega) (HNE.out _ (Nat.le_refl _))) hg.size
      have hy2 := (hy1.next (below_alloc1 w1 (.cells #[.int .u32 0] 60))).keep (hg.block _ (by simp only [World.size_alloc]; omega) (HNE.out _ (by omega))) hg.size
      have ho2 := hr.own (fun j hj => by (dsimp only; split; exact HF.out j (by omega); omega))
      obtain ⟨a2, c2, rfl, -⟩ := id ho2
      have hb2 : Below B (w1.alloc (.cells #[.int .u32 0] 60)) w' := ⟨hg.os, hg.tape, hg.output, hg.size, fun x hx => hg.block x (by simp only [World.size_alloc]; omega) (fun e => by have := (HLT.out x e.symm).1; omega)⟩
      exact ⟨a2, c2, rfl, hx2, hy2, ⟨ho2, (hS1.below (below_alloc1 _ _)).up hb2 hpB, (hal.up (below_alloc1 w1 _) (by omega)).trans (Al.grown hg)⟩, hr.ne (by omega) hx2.c0 (fun _ e => by cases e), hr.ne (by omega) hy2.c0 (fun _ e => by cases e), hr.z0⟩
    obtain ⟨c0, c1, f0, f1, lt⟩ := id hx1
    go_wp2_with (at_builtin; (with_reducible refine wpList_appendG (.tmp 10) (.tmp 11) B w1.heap.size _ n 1 1 f (fun _ => 0) (hrow1.alloc _) (fun i hi => one_cell w1 i hi) ?_ ?_ ?_ ?_ ?_ ?_ ?_); omega; (simp; omega); rfl; rfl; rfl; rfl; intro v' w' hr hg; obtain ⟨a2, c2', rfl, hx2, hy2, htri, q1, q2, z2⟩ := KEY v' w' hr hg; obtain ⟨c0, c1, f0, f1, lt⟩ := id hx2; obtain ⟨d0, d1, e0, e1, lt'⟩ := id hy2)
    refine bodyPost_ret (v := .agg #[.bool m, .slice a2 (n + 1) c2']) (by simp [results, Try.results90, go_sem, d0, d1]) rfl ?_
    have h3 := ((htri.set w.heap.size 1 (.slice a2 (n + 1) c2') (by omega) hp (fun _ => q1)).set (w.heap.size + 1) 0 (.bool m) (by omega) hp (fun _ => q2)).set (w.heap.size + 1) 1 (.slice a2 (n + 1) c2') (by omega) hp (fun _ => q2)
    exact ⟨_, _, n + 1, _, rfl, h3.own, by omega, z2, h3.src, h3.al⟩
  | 1, _ =>
    obtain ⟨c0, c1, f0, f1, lt⟩ := id hx1
    obtain ⟨d0, d1, e0, e1, lt'⟩ := id hy1
    have htri : Tri p k (t + 1) B (.slice a n c) (.slice none 0 0) 0 (fun _ => 0) w w1 := ⟨own_nil _ _ _, hS1, hal⟩
    go_wp2_with fail
    refine bodyPost_ret (v := .agg #[.bool true, .slice none 0 0]) (by simp [results, Try.results90, go_sem, d0, d1]) rfl ?_
    have h3 := (((htri.set w.heap.size 1 (.slice none 0 0) (by omega) hp (fun h => by omega)).set w.heap.size 0 (.bool true) (by omega) hp (fun h => by omega)).set (w.heap.size + 1) 0 (.bool true) (by omega) hp (fun h => by omega)).set (w.heap.size + 1) 1 (.slice none 0 0) (by omega) hp (fun h => by omega)
    exact ⟨_, _, 0, _, rfl, h3.own, by omega, (fun _ _ _ e => by cases e), h3.src, h3.al⟩
  | 2, _ =>
    obtain ⟨c0, c1, f0, f1, lt⟩ := id hx1
    obtain ⟨d0, d1, e0, e1, lt'⟩ := id hy1
    have hmk := run_make_row' (P := Try.prog) 23 60 (.int .u32 0) 4 Try.underlying23 Try.info60 rfl .i64 .i64 41 (by omega) (by omega)
    rw [show ((41 : Nat) : Int) = 41 from rfl] at hmk
    have hsz : (w1.setCell ⟨w.heap.size, 1, none⟩ (.slice (some ⟨w1.heap.size, 0, none⟩) 41 41)).heap.size = w1.heap.size := by simp [World.setCell]
    have hh := half41 (w1.setCell ⟨w.heap.size, 1, none⟩ (.slice (some ⟨w1.heap.size, 0, none⟩) 41 41))
    rw [hsz] at hh
    have hm0 := half_made (w1.setCell ⟨w.heap.size, 1, none⟩ (.slice (some ⟨w1.heap.size, 0, none⟩) 41 41)) 41
    rw [hsz] at hm0
    have hm41 := hm0.limb 40 (by decide)
    have hf41 := hm0.frozen 40
    have htri : Tri p k (t + 1) B (.slice a n c) (.slice (some ⟨w1.heap.size, 0, none⟩) 41 41) 41 (upd (fun _ => 0) 40 1) w ((w1.setCell ⟨w.heap.size, 1, none⟩ (.slice (some ⟨w1.heap.size, 0, none⟩) 41 41)).alloc (.cells ((madeCells #[.int .u32 0] 41).setIfInBounds 40 (.int .u32 1)) 60)) := by
      have hb1 : Below w.heap.size w1 (w1.setCell ⟨w.heap.size, 1, none⟩ (.slice (some ⟨w1.heap.size, 0, none⟩) 41 41)) := (Below.refl _ _).setCell (by exact Nat.le_refl _) _
      have hb2 := hb1.alloc (by rw [hsz]; omega) (.cells ((madeCells #[.int .u32 0] 41).setIfInBounds 40 (.int .u32 1)) 60)
      exact ⟨hh.own rfl (by omega) (by unfold maxLen; omega) (fun i _ => by simp only [upd]; split <;> omega), hS1.up hb2 hp, hal.up hb2 (Nat.le_refl _)⟩
    have hx2 : Bx ((w1.setCell ⟨w.heap.size, 1, none⟩ (.slice (some ⟨w1.heap.size, 0, none⟩) 41 41)).alloc (.cells ((madeCells #[.int .u32 0] 41).setIfInBounds 40 (.int .u32 1)) 60)) w.heap.size (.bool m) (.slice (some ⟨w1.heap.size, 0, none⟩) 41 41) := by
      have n0 : (⟨w.heap.size, 1, none⟩ : Addr) ≠ ⟨w.heap.size, 0, none⟩ := by simp
      have h1 : Bx (w1.setCell ⟨w.heap.size, 1, none⟩ (.slice (some ⟨w1.heap.size, 0, none⟩) 41 41)) w.heap.size (.bool m) (.slice (some ⟨w1.heap.size, 0, none⟩) 41 41) := ⟨(World.cell?_setCell_other _ _ _ _ n0).trans c0, World.cell?_setCell_same _ _ _ c1, by rw [World.frozen?_setCell]; exact f0, by rw [World.frozen?_setCell]; exact f1, by rw [hsz]; exact lt⟩
      exact h1.next (below_alloc1 _ _)
    have hy2 : Bx ((w1.setCell ⟨w.heap.size, 1, none⟩ (.slice (some ⟨w1.heap.size, 0, none⟩) 41 41)).alloc (.cells ((madeCells #[.int .u32 0] 41).setIfInBounds 40 (.int .u32 1)) 60)) (w.heap.size + 1) (.bool false) (.slice none 0 0) := by
      have h1 : Bx (w1.setCell ⟨w.heap.size, 1, none⟩ (.slice (some ⟨w1.heap.size, 0, none⟩) 41 41)) (w.heap.size + 1) (.bool false) (.slice none 0 0) := hy1.keep (Below.heap_setCell _ _ _ _ (by show w.heap.size + 1 ≠ w.heap.size; omega)) (by rw [hsz]; omega)
      exact h1.next (below_alloc1 _ _)
    clear hh hsz hm0
    go_upto_region 10 with fail
    clear hm41 hf41
    generalize ((w1.setCell ⟨w.heap.size, 1, none⟩ (.slice (some ⟨w1.heap.size, 0, none⟩) 41 41)).alloc (.cells ((madeCells #[.int .u32 0] 41).setIfInBounds 40 (.int .u32 1)) 60)) = W2 at *
    clear d0 d1 e0 e1 c0 c1 f0 f1 hmk
    obtain ⟨c0, c1, f0, f1, _⟩ := id hx2
    obtain ⟨d0, d1, e0, e1, _⟩ := id hy2
    go_wp2_with fail
    refine bodyPost_ret (v := .agg #[.bool m, .slice (some ⟨w1.heap.size, 0, none⟩) 41 41]) (by simp [results, Try.results90, go_sem, d0, d1]) rfl ?_
    have hq : (Value.slice (some ⟨w1.heap.size, 0, none⟩) 41 41).ownBlock ≠ some (w.heap.size + 1) := fun e => by have : w1.heap.size = w.heap.size + 1 := (by simpa [Value.ownBlock] using e); omega
    have h3 := (htri.set (w.heap.size + 1) 0 (.bool m) (by omega) hp (fun _ => hq)).set (w.heap.size + 1) 1 (.slice (some ⟨w1.heap.size, 0, none⟩) 41 41) (by omega) hp (fun _ => hq)
    exact ⟨_, _, 41, _, rfl, h3.own, by omega, (fun _ _ _ e => by (simp only [Value.slice.injEq, Option.some.injEq] at e; rw [← e.1])), h3.src, h3.al⟩
  | 3, _ =>
    obtain ⟨c0, c1, f0, f1, lt⟩ := id hx1
    obtain ⟨d0, d1, e0, e1, lt'⟩ := id hy1
    have htri : Tri p k (t + 1) B (.slice a n c) (.slice a n c) n f w w1 := ⟨hrow1.own HF.out, hS1, hal⟩
    go_wp2_with fail
    refine bodyPost_ret (v := .agg #[.bool m, .slice a n c]) (by simp [results, Try.results90, go_sem, d0, d1]) rfl ?_
    have h3 := (htri.set (w.heap.size + 1) 0 (.bool m) (by omega) hp (fun _ e => HNE.out _ (by omega) e.symm)).set (w.heap.size + 1) 1 (.slice a n c) (by omega) hp (fun _ e => HNE.out _ (by omega) e.symm)
    exact ⟨_, _, n, _, rfl, h3.own, by omega, hrow1.z0, h3.src, h3.al⟩

end Go.Proofs.Ytpcnmolncoaddaa

namespace Go.Proofs.Ytpcnmolncoaddaa
open Go.RowKit Go.Joins

set_option maxHeartbeats 2000000 in
set_option maxRecDepth 100000 in
theorem maybeBig_any (p k t : Nat) (w : World) (hS : Src w p k t) (hk : k ≤ 2000000) (ht : t < 40000) :
    Calls Try.prog 59 #[.pointer (some ⟨p, 0, none⟩)] w fun e w' => ∃ (m : Bool) (v : Value) (n : Nat) (f : Nat → Nat) (t' : Nat), e = .returned (.agg #[.bool m, v]) ∧ Own w.heap.size w' v n f ∧ n ≤ 41 ∧ Src w' p k t' ∧ t' ≤ t + 1010 ∧ Dr p w w' := by
  have hp := hS.lt
  have hS0 := hS.below (below_alloc1 w (.cells #[.bool false, .slice none 0 0] 25))
  have hd0 : Dr p w (w.alloc (.cells #[.bool false, .slice none 0 0] 25)) := Dr.below (below_alloc1 _ _) (by omega)
  have hx0 := Bx.start w (.bool false) (.slice none 0 0) 25
  go_enter Try.func59, Try.ntmps59
  go_wp2_with fail
  refine (drawBig_any p k t _ hS0 hk (by omega)).mono ?_
  rintro e w2 ⟨m, v, n, f, t2, rfl, hrow2, hf, hft, hS2, ht2, hd2⟩
  simp only [World.size_alloc] at hrow2
  have hx2 := hx0.dr hd2 (by omega)
  have hd2 := hd0.trans hd2
  obtain ⟨a, c, rfl, -⟩ := id (hrow2.own hf)
  have hn := faultB_le hft
  have hlt := hrow2.lt
  clear hS hS0 hd0 hx0
  have hS3 := hS2.below (below_alloc1 w2 (.cells #[.bool m, .slice a n c] 25))
  have hx3 := hx2.next (below_alloc1 w2 (.cells #[.bool m, .slice a n c] 25))
  have hd3 := hd2.trans (Dr.below (below_alloc1 w2 (.cells #[.bool m, .slice a n c] 25)) (by have := hS2.lt; omega))
  have hy3 := Bx.start w2 (.bool m) (.slice a n c) 25
  have hrow3 := hrow2.alloc (.cells #[.bool m, .slice a n c] 25)
  have hz2 := hd2.size
  have hl2 := hx2.lt
  go_wp2_with fail
  refine (chance_any p k t2 20 _ hS3 hk (by omega) (by decide) (by decide)).mono ?_
  rintro e w4 ⟨r4, rfl, hS4, ho4⟩
  have hd4 := hd3.trans (Dr.only ho4)
  have hx4 := hx3.dr (Dr.only ho4) (by omega)
  have hy4 := hy3.dr (Dr.only ho4) (by omega)
  have hrow4 := hrow3.dr (Dr.only ho4) (by omega)
  have hz4 := ho4.size
  simp only [World.size_alloc] at hz4
  have HF := hide hf
  have HLT := hide hlt
  clear hS3 hx3 hd3 hy3 hrow3 ho4 hS2 hrow2 hx2 hd2 hf hlt hft
  cases r4
  · obtain ⟨c0, c1, f0, f1, lt⟩ := id hx4
    obtain ⟨d0, d1, e0, e1, lt'⟩ := id hy4
    go_wp2_with fail
    refine bodyPost_ret (v := .agg #[.bool m, .slice a n c]) (by simp [results, Try.results59, go_sem, c0, c1]) rfl ?_
    have hb : Below w.heap.size w4 ((w4.setCell ⟨w.heap.size, 0, none⟩ (.bool m)).setCell ⟨w.heap.size, 1, none⟩ (.slice a n c)) := ((Below.refl _ _).setCell (by exact Nat.le_refl _) _).setCell (by exact Nat.le_refl _) _
    exact ⟨_, _, n, f, t2 + 1, rfl, (((hrow4.own HF.out).set _ _ (by show w.heap.size < _; omega)).set _ _ (by show w.heap.size < _; omega)).less (by omega), by omega, hS4.up hb (by omega), by omega, hd4.below' hb (by omega)⟩
  · obtain ⟨c0, c1, f0, f1, lt⟩ := id hx4
    obtain ⟨d0, d1, e0, e1, lt'⟩ := id hy4
    go_wp2_with fail
    refine (bendBig_any p k (t2 + 1) (w.heap.size + 1) m _ n f w4 hS4 hk (by omega) hrow4 HF.out hn (by omega) (by omega)).mono ?_
    rintro e w5 ⟨m5, v5, n5, f5, rfl, ho5, hn5, hz5, hS5, hal⟩
    have hx5 := hx4.keep (hal.block _ lt (by omega) (fun e => by have := (HLT.out _ e).1; omega)) hal.size
    have hy5 := hy4.keep (hal.block _ lt' (by omega) (fun e => by have := (HLT.out _ e).2; omega)) hal.size
    obtain ⟨a5, c5, rfl, -⟩ := id ho5
    have q5 : 0 < n5 → (Value.slice a5 n5 c5).ownBlock ≠ some w2.heap.size := fun h => ho5.ne hz5 h hy5.c0 (fun _ e => by cases e)
    have Q5 := hide q5
    have hd5 : Dr p w w5 := by
      refine ⟨hd4.bel.trans ⟨hal.os, hal.tape, hal.output, hal.size, fun x hx => hal.block x (by omega) (by omega) (fun e => by have := (HLT.out _ e).1; omega)⟩, fun b h1 h2 => ?_⟩
      exact (hal.block b (by omega) (by omega) (fun e => by have := (HLT.out _ e).1; omega)).trans (hd4.up b h1 h2)
    clear hal q5 hz5
    clear c0 c1 f0 f1 lt d0 d1 e0 e1 lt'
    obtain ⟨c0, c1, f0, f1, lt⟩ := id hx5
    obtain ⟨d0, d1, e0, e1, lt'⟩ := id hy5
    go_wp2_with fail
    refine bodyPost_ret (v := .agg #[.bool m5, .slice a5 n5 c5]) (by simp [results, Try.results59, go_sem, c0, c1]) rfl ?_
    have hb : Below w.heap.size w5 ((((w5.setCell ⟨w2.heap.size, 0, none⟩ (.bool m5)).setCell ⟨w2.heap.size, 1, none⟩ (.slice a5 n5 c5)).setCell ⟨w.heap.size, 0, none⟩ (.bool m5)).setCell ⟨w.heap.size, 1, none⟩ (.slice a5 n5 c5)) := ((((Below.refl _ _).setCell (by exact hz2) _).setCell (by exact hz2) _).setCell (by exact Nat.le_refl _) _).setCell (by exact Nat.le_refl _) _
    exact ⟨_, _, n5, f5, t2 + 1 + 1, rfl, ((((ho5.setNe _ _ Q5.out).setNe _ _ Q5.out).set _ _ (by show w.heap.size < _; omega)).set _ _ (by show w.heap.size < _; omega)).less (by omega), hn5, hS5.up hb (by omega), by omega, hd5.below' hb (by omega)⟩

/-- A slice of k bytes that can be read. -/
def Byt (w : World) (v : Value) (k : Nat) : Prop :=
  ∃ a c, v = .slice a k c ∧ k ≤ c ∧ (a = none → c = 0) ∧ (0 < k → ∃ b off, a = some ⟨b, off, none⟩ ∧ ∃ g : Nat → Nat, ∀ i, i < k → g i < 256 ∧ w.cell? ⟨b, off + i, none⟩ = some (.int .u8 (g i)))
theorem Byt.below {w w' v k} (h : Byt w v k) (hb : Below w.heap.size w w') : Byt w' v k := by
  obtain ⟨a, c, rfl, h1, h2, h3⟩ := h
  refine ⟨a, c, rfl, h1, h2, fun hk => ?_⟩
  obtain ⟨b, off, e, g, h5⟩ := h3 hk
  exact ⟨b, off, e, g, fun i hi => ⟨(h5 i hi).1, (hb.cell (block_lt_of_cell (h5 i hi).2)).trans (h5 i hi).2⟩⟩

set_option maxHeartbeats 2000000 in
set_option maxRecDepth 100000 in
theorem two_any (v : Value) (k : Nat) (w : World) (hB : Byt w v k) (hk : k ≤ 2000000) :
    Calls Try.prog 87 #[v] w fun e w' => ∃ (m : Bool) (v : Value) (n : Nat) (f : Nat → Nat) (m' : Bool) (v' : Value) (n' : Nat) (f' : Nat → Nat), e = .returned (.tuple #[.agg #[.bool m, v], .agg #[.bool m', v']]) ∧ Own w.heap.size w' v n f ∧ n ≤ 41 ∧ Own w.heap.size w' v' n' f' ∧ n' ≤ 41 ∧ Below w.heap.size w w' := by
  have hb0 := below_alloc2 w (.cells #[.bool false, .slice none 0 0] 25) (.cells #[.bool false, .slice none 0 0] 25)
  have hx0 := (Bx.start w (.bool false) (.slice none 0 0) 25).next (below_alloc1 _ (.cells #[.bool false, .slice none 0 0] 25))
  have hy0 := Bx.start (w.alloc (.cells #[.bool false, .slice none 0 0] 25)) (.bool false) (.slice none 0 0) 25
  simp only [World.size_alloc] at hy0
  obtain ⟨a, c, rfl, hc, -, hb⟩ := hB.below hb0
  clear hB
  go_enter Try.func87, Try.ntmps87
  go_wp2_with fail
  refine (source_any a k c _ hk hc hb).mono ?_
  rintro e w1 ⟨rfl, hS1, hb1⟩
  simp only [World.size_alloc] at hS1
  have hx1 := hx0.next hb1
  have hy1 := hy0.next hb1
  have hB1 := hb0.trans (hb1.mono (by simp only [World.size_alloc]; omega))
  have hl1 := hS1.lt
  clear hx0 hy0 hb0 hb1 hb
  go_wp2_with fail
  refine (maybeBig_any _ k 0 _ hS1 hk (by omega)).mono ?_
  rintro e w2 ⟨m2, v2, n2, f2, t2, rfl, ho2, hn2, hS2, ht2, hd2⟩
  have hx2 := hx1.dr hd2 (by omega)
  have hy2 := hy1.dr hd2 (by omega)
  have hz2 := hd2.size
  go_wp2_with fail
  refine (maybeBig_any _ k t2 _ hS2 hk (by omega)).mono ?_
  rintro e w3 ⟨m3, v3, n3, f3, t3, rfl, ho3, hn3, hS3, ht3, hd3⟩
  have hx3 := hx2.dr hd3 (by omega)
  have hy3 := hy2.dr hd3 (by omega)
  have ho2' := ho2.dr hd3 (by omega)
  have hB3 := (hB1.trans (hd2.bel.mono (by omega))).trans (hd3.bel.mono (by omega))
  obtain ⟨a2, c2, rfl, -⟩ := id ho2
  obtain ⟨a3, c3, rfl, -⟩ := id ho3
  clear hx1 hx2 hy1 hy2
  obtain ⟨c0, c1, f0, f1, lt⟩ := id hx3
  obtain ⟨d0, d1, e0, e1, lt'⟩ := id hy3
  go_wp2_with fail
  refine bodyPost_ret (v := .tuple #[.agg #[.bool m2, .slice a2 n2 c2], .agg #[.bool m3, .slice a3 n3 c3]]) (by simp [results, Try.results87, go_sem, c0, c1, d0, d1]) rfl ?_
  refine ⟨_, _, n2, f2, _, _, n3, f3, rfl, ?_, hn2, ?_, hn3, ?_⟩
  · exact ((((ho2'.set _ _ (by show w.heap.size < _; omega)).set _ _ (by show w.heap.size < _; omega)).set _ _ (by show w.heap.size + 1 < _; omega)).set _ _ (by show w.heap.size + 1 < _; omega)).less (by omega)
  · exact ((((ho3.set _ _ (by show w.heap.size < _; omega)).set _ _ (by show w.heap.size < _; omega)).set _ _ (by show w.heap.size + 1 < _; omega)).set _ _ (by show w.heap.size + 1 < _; omega)).less (by omega)
  · exact (((hB3.setCell (by show _ ≤ w.heap.size; omega) _).setCell (by show _ ≤ w.heap.size; omega) _).setCell (by show _ ≤ w.heap.size + 1; omega) _).setCell (by show _ ≤ w.heap.size + 1; omega) _

set_option maxHeartbeats 2000000 in
set_option maxRecDepth 100000 in
theorem drawAdd_any (v : Value) (k : Nat) (w : World) (hB : Byt w v k) (hk : k ≤ 2000000) :
    Calls Try.prog 52 #[v] w fun e w' => ∃ (m : Bool) (v : Value) (n : Nat) (f : Nat → Nat) (m' : Bool) (v' : Value) (n' : Nat) (f' : Nat → Nat), e = .returned (.tuple #[.agg #[.bool m, v], .agg #[.bool m', v']]) ∧ Own w.heap.size w' v n f ∧ n ≤ 41 ∧ Own w.heap.size w' v' n' f' ∧ n' ≤ 41 ∧ Below w.heap.size w w' := by
  have hb0 := below_alloc2 w (.cells #[.bool false, .slice none 0 0] 25) (.cells #[.bool false, .slice none 0 0] 25)
  have hx0 := (Bx.start w (.bool false) (.slice none 0 0) 25).next (below_alloc1 _ (.cells #[.bool false, .slice none 0 0] 25))
  have hy0 := Bx.start (w.alloc (.cells #[.bool false, .slice none 0 0] 25)) (.bool false) (.slice none 0 0) 25
  simp only [World.size_alloc] at hy0
  have hB0 := hB.below hb0
  obtain ⟨a, c, rfl, -⟩ := id hB0
  clear hB
  go_enter Try.func52, Try.ntmps52
  go_wp2_with fail
  refine (two_any _ k _ hB0 hk).mono ?_
  rintro e w3 ⟨m2, v2, n2, f2, m3, v3, n3, f3, rfl, ho2, hn2, ho3, hn3, hb3⟩
  simp only [World.size_alloc] at ho2 ho3
  have hx3 := hx0.next hb3
  have hy3 := hy0.next hb3
  have hB3 := hb0.trans (hb3.mono (by simp only [World.size_alloc]; omega))
  obtain ⟨a2, c2, rfl, -⟩ := id ho2
  obtain ⟨a3, c3, rfl, -⟩ := id ho3
  clear hx0 hy0
  obtain ⟨c0, c1, f0, f1, lt⟩ := id hx3
  obtain ⟨d0, d1, e0, e1, lt'⟩ := id hy3
  go_wp2_with fail
  refine bodyPost_ret (v := .tuple #[.agg #[.bool m2, .slice a2 n2 c2], .agg #[.bool m3, .slice a3 n3 c3]]) (by simp [results, Try.results52, go_sem, c0, c1, d0, d1]) rfl ?_
  refine ⟨_, _, n2, f2, _, _, n3, f3, rfl, ?_, hn2, ?_, hn3, ?_⟩
  · exact ((((ho2.set _ _ (by show w.heap.size < _; omega)).set _ _ (by show w.heap.size < _; omega)).set _ _ (by show w.heap.size + 1 < _; omega)).set _ _ (by show w.heap.size + 1 < _; omega)).less (by omega)
  · exact ((((ho3.set _ _ (by show w.heap.size < _; omega)).set _ _ (by show w.heap.size < _; omega)).set _ _ (by show w.heap.size + 1 < _; omega)).set _ _ (by show w.heap.size + 1 < _; omega)).less (by omega)
  · exact (((hB3.setCell (by show _ ≤ w.heap.size; omega) _).setCell (by show _ ≤ w.heap.size; omega) _).setCell (by show _ ≤ w.heap.size + 1; omega) _).setCell (by show _ ≤ w.heap.size + 1; omega) _

end Go.Proofs.Ytpcnmolncoaddaa

namespace Go.Proofs.Ytpcnmolncoaddaa
open Go.RowKit Go.Joins

theorem drawn3 (G Q : Nat) (hG : G < 256) (hQ : Q < 1000) : wrap64 ((G : Int) + wrap64 (wrap64 (Q : Int) * 3)) = ((G + Q * 3 : Nat) : Int) := by
  rw [w64 (Q : Int) (by omega) (by omega), w64 ((Q : Int) * 3) (by omega) (by omega), w64 _ (by omega) (by omega)]
  omega
theorem drawn4 (V G : Nat) (hV : V < 5000000) (hG : G < 256) : wrap64 (wrap64 ((V : Int) * 251) + (G : Int)) = ((V * 251 + G : Nat) : Int) := by
  rw [w64 ((V : Int) * 251) (by omega) (by omega), w64 _ (by omega) (by omega)]
  omega

set_option maxHeartbeats 400000 in
set_option maxRecDepth 100000 in
theorem lwAt_any (v : Value) (k i n : Nat) (w : World) (hB : Byt w v k) (hk : k ≤ 2000000) (hi : i < 1000) (hn : 200 < n) (hn' : n ≤ 100000) :
    Calls Try.prog 28 #[v, .int .i64 i, .int .i64 n] w fun e w' => ∃ r : Nat, r < n ∧ e = .returned (.int .i64 r) ∧ ∃ q, w' = w.drewN q := by
  obtain ⟨a, c, rfl, hc, -, hb⟩ := hB
  rcases Nat.eq_zero_or_pos k with h0 | hp
  · have hkb : ((k : Int) == 0) = true := by simp [h0]
    clear hb h0
    go_enter Try.func28, Try.ntmps28
    go_wp2_with fail
    go_ret
    exact ⟨i * 7 % n, Nat.mod_lt _ (by omega), by simp, 0, rfl⟩
  · have hkb : ((k : Int) == 0) = false := by simp; omega
    obtain ⟨b, off, rfl, g, hg⟩ := hb hp
    have g1 := (hg (i % k) (Nat.mod_lt _ hp)).2
    have l1 : i % k < k := Nat.mod_lt _ hp
    have g3 := (hg (i % k) (Nat.mod_lt _ hp)).1
    obtain ⟨J, hJ, g2, l2, g4⟩ : ∃ J : Nat, ((i : Int) + 1) % (k : Int) = (J : Int) ∧ w.cell? ⟨b, off + J, none⟩ = some (.int .u8 (g J)) ∧ J < k ∧ g J < 256 := ⟨(i + 1) % k, rfl, (hg _ (Nat.mod_lt _ hp)).2, Nat.mod_lt _ hp, (hg _ (Nat.mod_lt _ hp)).1⟩
    obtain ⟨Q, HQ, Q1⟩ : ∃ Q : Nat, Hid ((i : Int) / (k : Int) = (Q : Int)) ∧ Q < 1000 := ⟨i / k, rfl, Nat.lt_of_le_of_lt (Nat.div_le_self _ _) hi⟩
    clear hb hg
    go_enter Try.func28, Try.ntmps28
    go_wp2_with fail
    go_quiet (fail)
    rw [HQ.out]
    go_wp2_with fail
    go_ret
    rw [drawn3 _ _ g3 Q1, drawn4 _ _ (by omega) g4]
    obtain ⟨r, hr1, hr2⟩ := tmod_ex (((g (i % k) + Q * 3) * 251 + g J : Nat) : Int) n (by omega) (by omega)
    exact ⟨r, hr1, by rw [hr2]; rfl, _, rfl⟩

theorem Try.info5 : (Try.prog.info? 5).map (fun i => (i.zero, i.size, i.bytes)) = some (some (.int .u8 0), 1, 1) := by kernel_rfl

def U8s (n : Nat) (f : Nat → Nat) : List Value := (List.range n).map fun i => Value.int .u8 (f i)
theorem U8s_length (n : Nat) (f : Nat → Nat) : (U8s n f).length = n := by simp [U8s]
theorem U8s_get (n : Nat) (f : Nat → Nat) (i : Nat) (h : i < n) : (U8s n f)[i]? = some (.int .u8 (f i)) := by simp [U8s, h]
theorem U8s_app (n m : Nat) (f g : Nat → Nat) : U8s n f ++ U8s m g = U8s (n + m) (fun i => if i < n then f i else g (i - n)) := by
  apply List.ext_getElem?
  intro i
  by_cases h : i < n
  · rw [List.getElem?_append_left (by rw [U8s_length]; exact h), U8s_get _ _ _ h, U8s_get _ _ _ (by omega), if_pos h]
  · rw [List.getElem?_append_right (by rw [U8s_length]; omega), U8s_length]
    by_cases h2 : i < n + m
    · rw [U8s_get _ _ _ (by omega), U8s_get _ _ _ h2, if_neg h]
    · rw [List.getElem?_eq_none (by rw [U8s_length]; omega), List.getElem?_eq_none (by rw [U8s_length]; omega)]

theorem bytes_of_row {B w v n f} (h : w.ownsRow B 5 1 v n (U8s n f)) (hf : ∀ i, i < n → f i < 256) : Byt w v n := by
  obtain ⟨h1, h2⟩ := h
  rcases h2 with ⟨rfl, rfl⟩ | ⟨g, cap, cur, rfl, hb, hg, hn, hc, hs, ht⟩
  · exact ⟨none, 0, rfl, Nat.le_refl _, fun _ => rfl, fun h => by omega⟩
  · refine ⟨_, cap, rfl, hn, (fun e => by cases e), fun _ => ⟨g, 0, rfl, f, fun i hi => ⟨hf i hi, ?_⟩⟩⟩
    rw [cell_of_block hg, Nat.zero_add]
    have := congrArg (fun l => l[i]?) ht
    simp only [U8s_get _ _ _ hi] at this
    rw [List.getElem?_take, if_pos (by omega)] at this
    simpa using this

theorem two_bytes (W : World) (r0 r1 : Nat) : (W.alloc (.cells #[.int .u8 r0, .int .u8 r1] 5)).ownsRow W.heap.size 5 1 (.slice (some ⟨W.heap.size, 0, none⟩) 2 2) 2 (U8s 2 (fun i => if i = 0 then r0 else r1)) :=
  ⟨by simp [U8s], .inr ⟨W.heap.size, 2, _, rfl, Nat.le_refl _, heap_alloc_new _ _, Nat.le_refl _, by unfold maxLen; omega, by simp, by simp [U8s, List.range_succ]⟩⟩

theorem wpList_appendB {ops : Array Oper} {rest : List Oper} {o : Oper} {a : Act} {W : World} {Q : Exit → Act → World → Prop} (s x : Operand) (r0 r1 : Nat) (sv : Value) (m : Nat)
    (h0 : r0 < 256) (h1 : r1 < 256) (hL : Byt (W.alloc (.cells #[.int .u8 r0, .int .u8 r1] 5)) sv m) (hb : m ≤ 2000000)
    (hgd : o.guard = none) (ho : o.op = .call { callee := .builtin .append, args := #[s, x], argTypes := #[22, 22] }) (hs : a.eval s = .slice (some ⟨W.heap.size, 0, none⟩) 2 2) (hx : a.eval x = sv)
    (h : ∀ v' w', Byt w' v' (2 + m) → Below W.heap.size W w' → wpList Try.prog ops Q rest (a.put o.dst v') w') : wpList Try.prog ops Q (o :: rest) a (W.alloc (.cells #[.int .u8 r0, .int .u8 r1] 5)) := by
  obtain ⟨i0, hi, hz0, hz1, hz2⟩ := info_parts Try.info5
  have hown := two_bytes W r0 r1
  have hf2 : ∀ i, i < 2 → (fun i => if i = 0 then r0 else r1) i < 256 := fun i _ => by dsimp only; split <;> assumption
  obtain ⟨sa, sc, rfl, h2, h3, h4⟩ := hL
  cases sa with
  | none =>
    have hm : m = 0 := by
      rcases Nat.eq_zero_or_pos m with h0 | hp
      · exact h0
      · obtain ⟨b, off, e, _⟩ := h4 hp; cases e
    have hc : sc = 0 := h3 rfl
    subst hm hc
    refine wpList_append_own_none hgd s x 22 ho W.heap.size 5 i0 1 Try.underlying22 hi _ 2 _ hs hown hx ?_
    exact h _ _ (bytes_of_row hown hf2) (below_alloc1 _ _)
  | some ad =>
    have hg : ∃ g : Nat → Nat, ∀ j, j < m → g j < 256 ∧ (W.alloc (.cells #[.int .u8 r0, .int .u8 r1] 5)).cell? (ad.add j) = some (.int .u8 (g j)) := by
      rcases Nat.eq_zero_or_pos m with h0 | hp
      · exact ⟨fun _ => 0, fun j hj => by omega⟩
      · obtain ⟨b, off, e, g, h5⟩ := h4 hp
        refine ⟨g, fun j hj => ⟨(h5 j hj).1, ?_⟩⟩
        rw [Option.some.inj e, addAt]
        exact (h5 j hj).2
    obtain ⟨g, hg⟩ := hg
    refine wpList_append_own _ hgd s x 22 ho W.heap.size 5 i0 (.int .u8 0) 1 1 Try.underlying22 hi hz0 hz1 hz2 rfl (by decide) _ 2 _ hs hown ad m sc (U8s m g) hx (by rw [U8s_length]; omega) ?_ ?_ (by unfold maxLen; omega) (by omega) (by simp) ?_
    · intro j u hj
      have hjm : j < m := by have := (List.getElem?_eq_some_iff.1 hj).1; rwa [U8s_length] at this
      rw [U8s_get _ _ _ hjm] at hj
      rw [← hj]
      exact (hg j hjm).2
    · intro u hu
      simp only [U8s, List.mem_map] at hu
      obtain ⟨i, _, rfl⟩ := hu
      rfl
    · intro v' w' h5 h6 _
      rw [U8s_app] at h5
      refine h v' w' (bytes_of_row h5 (fun i hi => ?_)) (((below_alloc1 W _)).grown h6 (by simp) (fun k hk => (hown.lt k hk).1))
      split
      · split <;> assumption
      · exact (hg _ (by omega)).1

end Go.Proofs.Ytpcnmolncoaddaa

namespace Go.Proofs.Ytpcnmolncoaddaa
open Go.RowKit Go.Joins

theorem num_zero (w : World) (f : Nat → Nat) : Num w false (.slice none 0 0) 0 f 0 :=
  ⟨(own_nil 0 w f).lim, rfl, ⟨fun i => by unfold ext; simp, fun i _ => by unfold ext; simp, fun h => by omega, rfl⟩, rfl⟩

theorem below_drewN (w : World) (q : Nat) : Below w.heap.size w (w.drewN q) := ⟨rfl, rfl, rfl, Nat.le_refl _, fun _ _ => rfl⟩

set_option maxHeartbeats 2000000 in
set_option maxRecDepth 100000 in
theorem lwBig_any (v : Value) (k i : Nat) (w : World) (hB : Byt w v k) (hk : k ≤ 1048576) (hi : i < 100) :
    Calls Try.prog 16 #[v, .int .i64 i] w fun e w' => ∃ (m : Bool) (v : Value) (n : Nat) (f : Nat → Nat) (Z : Int), e = .returned (.agg #[.bool m, v]) ∧ Own w.heap.size w' v n f ∧ Num w' m v n f Z ∧ Below w.heap.size w w' := by
  have hb0 := below_alloc1 w (.cells #[.bool false, .slice none 0 0] 25)
  have hx0 := Bx.start w (.bool false) (.slice none 0 0) 25
  have hB0 := hB.below hb0
  obtain ⟨a, c, rfl, -⟩ := id hB0
  clear hB
  go_enter Try.func16, Try.ntmps16
  go_wp2_with fail
  refine (lwAt_any _ k i 256 _ hB0 (by omega) (by omega) (by omega) (by omega)).mono ?_
  rintro e w1 ⟨r1, hr1, rfl, q1, rfl⟩
  have hb1 := hb0.trans ((below_drewN (w.alloc (.cells #[.bool false, .slice none 0 0] 25)) q1).mono (by simp))
  have hx1 := hx0.next (below_drewN _ q1)
  have hB1 := hB0.below (below_drewN _ q1)
  have hz1 : w.heap.size + 1 ≤ ((w.alloc (.cells #[.bool false, .slice none 0 0] 25)).drewN q1).heap.size := by rw [← World.size_alloc w (.cells #[.bool false, .slice none 0 0] 25)]; exact Nat.le_refl _
  generalize (w.alloc (.cells #[.bool false, .slice none 0 0] 25)).drewN q1 = w1 at *
  clear hb0 hx0 hB0
  go_wp2_with fail
  refine (lwAt_any _ k (i + 1) 256 _ hB1 (by omega) (by omega) (by omega) (by omega)).mono ?_
  rintro e w2 ⟨r2, hr2, rfl, q2, rfl⟩
  have hb2 := hb1.trans ((below_drewN w1 q2).mono (by omega))
  have hx2 := hx1.next (below_drewN _ q2)
  have hB2 := hB1.below (below_drewN _ q2)
  have hz2 : w.heap.size + 1 ≤ (w1.drewN q2).heap.size := hz1
  generalize w1.drewN q2 = w2 at *
  clear hb1 hx1 hB1 hz1
  have hB3 := hB2.below (below_alloc1 w2 (.cells #[.int .u8 r1, .int .u8 r2] 5))
  go_wp2_with (at_builtin; (with_reducible refine wpList_appendB (.tmp 17) (.tmp 18) r1 r2 _ k hr1 hr2 hB3 ?_ ?_ ?_ ?_ ?_ ?_); omega; rfl; rfl; rfl; rfl; intro v4 w4 hB4 hb4; (obtain ⟨a4, c4, rfl, -⟩ := id hB4))
  refine (drawAdd_any _ (2 + k) _ hB4 (by omega)).mono ?_
  rintro e w5 ⟨m5, v5, n5, f5, m6, v6, n6, f6, rfl, ho5, hn5, ho6, hn6, hb5⟩
  obtain ⟨a5, c5, rfl, -⟩ := id ho5
  obtain ⟨a6, c6, rfl, -⟩ := id ho6
  have y4 := hb4.size
  have y5 := hb5.size
  have hb7 := (hb2.trans (hb4.mono (by omega))).trans (hb5.mono (by omega))
  have hx7 := (hx2.keep (hb4.block _ (by omega)) hb4.size).next hb5
  have hl7 := ho5.lim.below (below_alloc2 w5 (.cells #[.bool m5, .slice a5 n5 c5] 25) (.cells #[.bool m6, .slice a6 n6 c6] 25))
  go_wp2_with fail
  refine (sFault_any m5 _ n5 f5 _ hl7).mono ?_
  rintro e w8 ⟨rfl, hb8⟩
  have hB8 := (below_alloc2 w5 (.cells #[.bool m5, .slice a5 n5 c5] 25) (.cells #[.bool m6, .slice a6 n6 c6] 25)).trans (hb8.mono (by simp only [World.size_alloc]; omega))
  have hy8 := ((Bx.start w5 (.bool m5) (.slice a5 n5 c5) 25).next (below_alloc1 _ (.cells #[.bool m6, .slice a6 n6 c6] 25))).next hb8
  have hx8 := hx7.next hB8
  have ho8 := ho5.below hB8
  have hb9 := hb7.trans (hB8.mono (by omega))
  clear hb8 hB8 hx7 hl7 hb7 hx2 hB2 hB3 hb2 hb4 hb5 hB4 ho6
  by_cases hf : faultB m5 n5 f5 = true
  · rw [hf]
    obtain ⟨c0, c1, f0, f1, lt⟩ := id hx8
    obtain ⟨d0, d1, e0, e1, lt'⟩ := id hy8
    go_wp2_with fail
    refine bodyPost_ret (v := .agg #[.bool false, .slice none 0 0]) (by simp [results, Try.results16, go_sem, c0, c1]) rfl ?_
    exact ⟨_, _, 0, fun _ => 0, 0, rfl, own_nil _ _ _, num_zero _ _, (hb9.setCell (by exact Nat.le_refl _) _).setCell (by exact Nat.le_refl _) _⟩
  · have hf' : faultB m5 n5 f5 = false := Bool.eq_false_iff.2 hf
    rw [hf']
    obtain ⟨c0, c1, f0, f1, lt⟩ := id hx8
    obtain ⟨d0, d1, e0, e1, lt'⟩ := id hy8
    go_wp2_with fail
    have ho9 := (ho8.set ⟨w.heap.size, 0, none⟩ (.bool m5) (by show w.heap.size < _; omega)).set ⟨w.heap.size, 1, none⟩ (.slice a5 n5 c5) (by show w.heap.size < _; omega)
    obtain ⟨Z, hZ⟩ := num_of ho9.lim hf'
    refine bodyPost_ret (v := .agg #[.bool m5, .slice a5 n5 c5]) (by simp [results, Try.results16, go_sem, c0, c1]) rfl ?_
    exact ⟨_, _, n5, f5, Z, rfl, ho9.less (by omega), hZ, (hb9.setCell (by exact Nat.le_refl _) _).setCell (by exact Nat.le_refl _) _⟩

set_option maxHeartbeats 1000000 in
set_option maxRecDepth 100000 in
theorem sameBig_any {m m' : Bool} {v v' : Value} {n n' : Nat} {f f' : Nat → Nat} {w : World} {A B : Int} (h : Num w m v n f A) (h' : Num w m' v' n' f' B) :
    Calls Try.prog 20 #[.agg #[.bool m, v], .agg #[.bool m', v']] w fun e w' => e = .returned (.bool (decide (A = B))) ∧ Below w.heap.size w w' := by
  obtain ⟨a, c, rfl, -⟩ := id h.lim
  obtain ⟨a', c', rfl, -⟩ := id h'.lim
  have hb0 := Box2.start w (.bool m) (.slice a n c) (.bool m') (.slice a' n' c') 25 25
  obtain ⟨a0, a1, b0, b1, hz, bel⟩ := id hb0
  go_enter Try.func20, Try.ntmps20
  go_wp2_with fail
  refine (sCompareZ (h.below bel) (h'.below bel)).mono ?_
  rintro e w1 ⟨rfl, hb1⟩
  have h1 := hb0.next hb1
  clear a0 a1 b0 b1 hz bel
  obtain ⟨a0, a1, b0, b1, hz, bel⟩ := id h1
  by_cases e : A = B
  · have e0 : (ord A B == 0) = true := by simp [ord, e]
    have HE : Hid (A = B) := e
    clear e
    go_wp2_with fail
    refine (sFault_any m _ n f _ (h.lim.below bel)).mono ?_
    rintro e w2 ⟨rfl, hb2⟩
    rw [h.fault]
    go_wp2_with fail
    go_ret
    exact ⟨ret_bool (by simp [HE.out]), (h1.next hb2).bel⟩
  · have e0 : (ord A B == 0) = false := by simp only [ord]; split; rfl; split; rfl; omega
    go_wp2_with fail
    go_ret
    exact ⟨ret_bool (by simp [e]), h1.bel⟩

end Go.Proofs.Ytpcnmolncoaddaa

