import Derived.Test.YtcnokpaicnjkfaaDh
namespace Go.Proofs.Ytcnokpaicnjkfaa
open Go.RowKit Go.Joins

theorem emp_iff (x : ByteArray) : x.toList.isEmpty = true ↔ x = ⟨#[]⟩ := by rw [List.isEmpty_iff, empty_iff]


/-- A term in memory, its rows read. -/
structure Wc (d : Nd) (k : Int) (nm : ByteArray) (mn : Bool) (la na ka aa : Option Addr) (lc nc kn kc an ac : Nat) (lm : List Int) (ns : List ByteArray) (al : Tm) (W : World) : Prop where
  hc : Cel W [.int .i64 k, .string nm, .bool mn, .slice la lm.length lc, .slice na ns.length nc, .slice ka kn kc, .slice aa an ac] d.b d.o
  hb : d.b < W.heap.size
  hl : LR W (fun b => b < W.heap.size) la lc lm
  hn : SR W (fun b => b < W.heap.size) na nc ns
  hmx : ns.length ≤ 16777216 ∧ lm.length ≤ 16777216
  hnz : ∀ x ∈ ns, x.size ≤ maxLen
  hkn : kn ≤ 16777216
  han : an ≤ 16777216
  hal : al.len = an
  hnm : nm.size ≤ maxLen

theorem lg1 (P : Prop) (e m : Bool) (n3 n4 kn an : Nat) (en : e = true ↔ P) : (n3 = 0 ∧ m = false ∧ an = 0 ∧ n4 = 0 ∧ ¬ P ∧ kn = 0) ↔ ((!e) && (!(m || decide (0 < n3)) && !decide (0 < n4) && !decide (0 < kn) && !decide (0 < an))) = true := by
  cases e <;> cases m <;> simp at en <;> simp [en] <;> omega
theorem lg3 (z : Nat) (m : Bool) (n3 n4 kn an : Nat) : (n3 = 0 ∧ m = false ∧ an = 0 ∧ n4 = 0 ∧ z = 1 ∧ kn = 0) ↔ (decide ((z : Int) = 1) && (!(m || decide (0 < n3)) && !decide (0 < n4) && !decide (0 < kn) && !decide (0 < an))) = true := by
  cases m <;> simp <;> omega
theorem lg4 (P : Prop) (e m : Bool) (n3 n4 an : Nat) (en : e = true ↔ P) : (n3 = 0 ∧ m = false ∧ an = 0 ∧ n4 = 0 ∧ ¬ P) ↔ ((!e) && (!(m || decide (0 < n3)) && !decide (0 < n4) && !decide (0 < an))) = true := by
  cases e <;> cases m <;> simp at en <;> simp [en] <;> omega
theorem lg5 (P : Prop) (e m : Bool) (n3 n4 kn an : Nat) (en : e = true ↔ P) : (n3 = 0 ∧ m = false ∧ an = 0 ∧ n4 = 0 ∧ P ∧ 2 ≤ kn) ↔ (decide ((1 : Int) < kn) && (!(!e) && !(m || decide (0 < n3)) && !decide (0 < n4) && !decide (0 < an))) = true := by
  cases e <;> cases m <;> simp at en <;> simp [en] <;> omega
theorem lg10 (P : Prop) (e m : Bool) (z n3 n4 kn an : Nat) (en : e = true ↔ P) : (n3 = 0 ∧ m = false ∧ an = 0 ∧ n4 = 0 ∧ ¬ P ∧ z ≤ 60000 ∧ kn = 0) ↔ ((!e && decide ((z : Int) ≤ 60000)) && (!(m || decide (0 < n3)) && !decide (0 < n4) && !decide (0 < kn) && !decide (0 < an))) = true := by
  cases e <;> cases m <;> simp at en <;> simp [en] <;> omega

set_option maxHeartbeats 2000000 in
set_option maxRecDepth 100000 in
theorem w_1 (d : Nd) (con : ByteArray) (cs : List ByteArray) (nm : ByteArray) (mn : Bool) (la na ka aa : Option Addr) (lc nc kn kc an ac : Nat) (lm : List Int) (ns : List ByteArray) (al : Tm) (W : World) (hh : Wc d 1 nm mn la na ka aa lc nc kn kc an ac lm ns al W) (q : Bool) (hq : q = true ↔ shp ⟨con, cs, 1, nm, mn, lm, ns⟩ kn al) :
    Calls Try.prog 85 #[.agg #[d.ptr]] W fun e W' => e = .returned (.bool q) ∧ Below W.heap.size W W' := by
  obtain ⟨hc, hb, hl, hn, hmx, hnz, hkn, han, hal, hnm⟩ := hh
  rw [shp_1] at hq
  obtain ⟨n3, hn3⟩ : ∃ n, n = lm.length := ⟨_, rfl⟩
  obtain ⟨n4, hn4⟩ : ∃ n, n = ns.length := ⟨_, rfl⟩
  have el : lm = [] ↔ n3 = 0 := by rw [hn3]; exact List.length_eq_zero_iff.symm
  have es : ns = [] ↔ n4 = 0 := by rw [hn4]; exact List.length_eq_zero_iff.symm
  have en := emp_iff nm
  have hx1 : nm.size ≤ 9223372036854775807 := hnm
  have hx3 : n3 ≤ 16777216 := by omega
  have hx4 : n4 ≤ 16777216 := by omega
  simp only [Nd.ptr]
  have hB := below_alloc1 W (.cells #[.pointer (some ⟨d.b, d.o, none⟩)] 115)
  have hc0 := hc.below hB hb
  have hb0 := Nat.lt_of_lt_of_le hb hB.size
  rw [← hn3, ← hn4] at hc0
  obtain ⟨r, hr⟩ : ∃ r, r = only 1 (!nm.toList.isEmpty) (mn || decide (0 < n3)) (decide (0 < n4)) (decide (0 < kn)) (decide (0 < an)) := ⟨_, rfl⟩
  have HO := hide (fun V (b : Below (W.alloc (.cells #[.pointer (some ⟨d.b, d.o, none⟩)] 115)).heap.size (W.alloc (.cells #[.pointer (some ⟨d.b, d.o, none⟩)] 115)) V) => i_only 1 d 1 nm mn la na ka aa n3 lc n4 nc kn kc an ac V (hc0.below b hb0) (Nat.lt_of_lt_of_le hb0 b.size) r hr)
  simp only [Nd.ptr] at HO
  have c1 := hc0 1 _ rfl
  have c2 := hc0 2 _ rfl
  have c3 := hc0 3 _ rfl
  have c4 := hc0 4 _ rfl
  have c5 := hc0 5 _ rfl
  have c6 := hc0 6 _ rfl
  have HB := hide hB
  rw [only_1] at hr
  have hqa : q = (!nm.toList.isEmpty && r) := Bool.eq_iff_iff.2 (hq.trans (by rw [hr, hal, el, es]; exact lg1 _ _ _ _ _ _ _ en))
  cases hA : !nm.toList.isEmpty with
  | true =>
    have HQ : Hid (q = r) := by unfold Hid; rw [hqa, hA]; rfl
    have g' : nm.toList.isEmpty = false := by simpa using hA
    clear hq hr el es en hn3 hn4 hc hc0 hB hl hn hal hnz hb hb0 hnm hqa hA
    go_enter Try.func85, Try.ntmps85
    go_wp2_with (refine (HO.out _ (Below.refl _ _)).mono ?_; rintro e w1 ⟨rfl, b1⟩)
    go_ret
    exact ⟨by rw [HQ.out]; rfl, HB.out.trans (b1.mono HB.out.size)⟩
  | false =>
    have HQ : Hid (q = false) := by unfold Hid; rw [hqa, hA]; rfl
    have g' : nm.toList.isEmpty = true := by simpa using hA
    clear hq hr el es en hn3 hn4 hc hc0 hB hl hn hal hnz hb hb0 hnm hqa hA
    go_enter Try.func85, Try.ntmps85
    go_wp2_with fail
    go_ret
    exact ⟨by rw [HQ.out]; rfl, HB.out⟩

set_option maxHeartbeats 2000000 in
set_option maxRecDepth 100000 in
theorem w_3 (d : Nd) (con : ByteArray) (cs : List ByteArray) (nm : ByteArray) (mn : Bool) (la na ka aa : Option Addr) (lc nc kn kc an ac : Nat) (lm : List Int) (ns : List ByteArray) (al : Tm) (W : World) (hh : Wc d 3 nm mn la na ka aa lc nc kn kc an ac lm ns al W) (q : Bool) (hq : q = true ↔ shp ⟨con, cs, 3, nm, mn, lm, ns⟩ kn al) :
    Calls Try.prog 90 #[.agg #[d.ptr]] W fun e W' => e = .returned (.bool q) ∧ Below W.heap.size W W' := by
  obtain ⟨hc, hb, hl, hn, hmx, hnz, hkn, han, hal, hnm⟩ := hh
  rw [shp_3] at hq
  obtain ⟨n3, hn3⟩ : ∃ n, n = lm.length := ⟨_, rfl⟩
  obtain ⟨n4, hn4⟩ : ∃ n, n = ns.length := ⟨_, rfl⟩
  have el : lm = [] ↔ n3 = 0 := by rw [hn3]; exact List.length_eq_zero_iff.symm
  have es : ns = [] ↔ n4 = 0 := by rw [hn4]; exact List.length_eq_zero_iff.symm
  have en := emp_iff nm
  have hx1 : nm.size ≤ 9223372036854775807 := hnm
  have hx3 : n3 ≤ 16777216 := by omega
  have hx4 : n4 ≤ 16777216 := by omega
  simp only [Nd.ptr]
  have hB := below_alloc1 W (.cells #[.pointer (some ⟨d.b, d.o, none⟩)] 117)
  have hc0 := hc.below hB hb
  have hb0 := Nat.lt_of_lt_of_le hb hB.size
  rw [← hn3, ← hn4] at hc0
  obtain ⟨r, hr⟩ : ∃ r, r = only 1 (!nm.toList.isEmpty) (mn || decide (0 < n3)) (decide (0 < n4)) (decide (0 < kn)) (decide (0 < an)) := ⟨_, rfl⟩
  have HO := hide (fun V (b : Below (W.alloc (.cells #[.pointer (some ⟨d.b, d.o, none⟩)] 117)).heap.size (W.alloc (.cells #[.pointer (some ⟨d.b, d.o, none⟩)] 117)) V) => i_only 1 d 3 nm mn la na ka aa n3 lc n4 nc kn kc an ac V (hc0.below b hb0) (Nat.lt_of_lt_of_le hb0 b.size) r hr)
  simp only [Nd.ptr] at HO
  have c1 := hc0 1 _ rfl
  have c2 := hc0 2 _ rfl
  have c3 := hc0 3 _ rfl
  have c4 := hc0 4 _ rfl
  have c5 := hc0 5 _ rfl
  have c6 := hc0 6 _ rfl
  have HB := hide hB
  rw [only_1] at hr
  have hqa : q = (decide ((nm.size : Int) = 1) && r) := Bool.eq_iff_iff.2 (hq.trans (by rw [hr, hal, el, es]; exact lg3 _ _ _ _ _ _))
  cases hA : decide ((nm.size : Int) = 1) with
  | true =>
    have HQ : Hid (q = r) := by unfold Hid; rw [hqa, hA]; rfl
    have g' : (nm.size : Int) = 1 := by simpa using hA
    clear hq hr el es en hn3 hn4 hc hc0 hB hl hn hal hnz hb hb0 hnm hqa hA
    go_enter Try.func90, Try.ntmps90
    go_wp2_with (refine (HO.out _ (Below.refl _ _)).mono ?_; rintro e w1 ⟨rfl, b1⟩)
    go_ret
    exact ⟨by rw [HQ.out]; rfl, HB.out.trans (b1.mono HB.out.size)⟩
  | false =>
    have HQ : Hid (q = false) := by unfold Hid; rw [hqa, hA]; rfl
    have g' : ¬ (nm.size : Int) = 1 := by simpa using hA
    clear hq hr el es en hn3 hn4 hc hc0 hB hl hn hal hnz hb hb0 hnm hqa hA
    go_enter Try.func90, Try.ntmps90
    go_wp2_with fail
    go_ret
    exact ⟨by rw [HQ.out]; rfl, HB.out⟩

set_option maxHeartbeats 2000000 in
set_option maxRecDepth 100000 in
theorem w_4 (d : Nd) (con : ByteArray) (cs : List ByteArray) (nm : ByteArray) (mn : Bool) (la na ka aa : Option Addr) (lc nc kn kc an ac : Nat) (lm : List Int) (ns : List ByteArray) (al : Tm) (W : World) (hh : Wc d 4 nm mn la na ka aa lc nc kn kc an ac lm ns al W) (q : Bool) (hq : q = true ↔ shp ⟨con, cs, 4, nm, mn, lm, ns⟩ kn al) :
    Calls Try.prog 92 #[.agg #[d.ptr]] W fun e W' => e = .returned (.bool q) ∧ Below W.heap.size W W' := by
  obtain ⟨hc, hb, hl, hn, hmx, hnz, hkn, han, hal, hnm⟩ := hh
  rw [shp_4] at hq
  obtain ⟨n3, hn3⟩ : ∃ n, n = lm.length := ⟨_, rfl⟩
  obtain ⟨n4, hn4⟩ : ∃ n, n = ns.length := ⟨_, rfl⟩
  have el : lm = [] ↔ n3 = 0 := by rw [hn3]; exact List.length_eq_zero_iff.symm
  have es : ns = [] ↔ n4 = 0 := by rw [hn4]; exact List.length_eq_zero_iff.symm
  have en := emp_iff nm
  have hx1 : nm.size ≤ 9223372036854775807 := hnm
  have hx3 : n3 ≤ 16777216 := by omega
  have hx4 : n4 ≤ 16777216 := by omega
  simp only [Nd.ptr]
  have hB := below_alloc1 W (.cells #[.pointer (some ⟨d.b, d.o, none⟩)] 118)
  have hc0 := hc.below hB hb
  have hb0 := Nat.lt_of_lt_of_le hb hB.size
  rw [← hn3, ← hn4] at hc0
  obtain ⟨r, hr⟩ : ∃ r, r = only 9 (!nm.toList.isEmpty) (mn || decide (0 < n3)) (decide (0 < n4)) (decide (0 < kn)) (decide (0 < an)) := ⟨_, rfl⟩
  have HO := hide (fun V (b : Below (W.alloc (.cells #[.pointer (some ⟨d.b, d.o, none⟩)] 118)).heap.size (W.alloc (.cells #[.pointer (some ⟨d.b, d.o, none⟩)] 118)) V) => i_only 9 d 4 nm mn la na ka aa n3 lc n4 nc kn kc an ac V (hc0.below b hb0) (Nat.lt_of_lt_of_le hb0 b.size) r hr)
  simp only [Nd.ptr] at HO
  have c1 := hc0 1 _ rfl
  have c2 := hc0 2 _ rfl
  have c3 := hc0 3 _ rfl
  have c4 := hc0 4 _ rfl
  have c5 := hc0 5 _ rfl
  have c6 := hc0 6 _ rfl
  have HB := hide hB
  rw [only_9] at hr
  have hqa : q = (!nm.toList.isEmpty && r) := Bool.eq_iff_iff.2 (hq.trans (by rw [hr, hal, el, es]; exact lg4 _ _ _ _ _ _ en))
  cases hA : !nm.toList.isEmpty with
  | true =>
    have HQ : Hid (q = r) := by unfold Hid; rw [hqa, hA]; rfl
    have g' : nm.toList.isEmpty = false := by simpa using hA
    clear hq hr el es en hn3 hn4 hc hc0 hB hl hn hal hnz hb hb0 hnm hqa hA
    go_enter Try.func92, Try.ntmps92
    go_wp2_with (refine (HO.out _ (Below.refl _ _)).mono ?_; rintro e w1 ⟨rfl, b1⟩)
    go_ret
    exact ⟨by rw [HQ.out]; rfl, HB.out.trans (b1.mono HB.out.size)⟩
  | false =>
    have HQ : Hid (q = false) := by unfold Hid; rw [hqa, hA]; rfl
    have g' : nm.toList.isEmpty = true := by simpa using hA
    clear hq hr el es en hn3 hn4 hc hc0 hB hl hn hal hnz hb hb0 hnm hqa hA
    go_enter Try.func92, Try.ntmps92
    go_wp2_with fail
    go_ret
    exact ⟨by rw [HQ.out]; rfl, HB.out⟩

set_option maxHeartbeats 2000000 in
set_option maxRecDepth 100000 in
theorem w_5 (d : Nd) (con : ByteArray) (cs : List ByteArray) (nm : ByteArray) (mn : Bool) (la na ka aa : Option Addr) (lc nc kn kc an ac : Nat) (lm : List Int) (ns : List ByteArray) (al : Tm) (W : World) (hh : Wc d 5 nm mn la na ka aa lc nc kn kc an ac lm ns al W) (q : Bool) (hq : q = true ↔ shp ⟨con, cs, 5, nm, mn, lm, ns⟩ kn al) :
    Calls Try.prog 93 #[.agg #[d.ptr]] W fun e W' => e = .returned (.bool q) ∧ Below W.heap.size W W' := by
  obtain ⟨hc, hb, hl, hn, hmx, hnz, hkn, han, hal, hnm⟩ := hh
  rw [shp_5] at hq
  obtain ⟨n3, hn3⟩ : ∃ n, n = lm.length := ⟨_, rfl⟩
  obtain ⟨n4, hn4⟩ : ∃ n, n = ns.length := ⟨_, rfl⟩
  have el : lm = [] ↔ n3 = 0 := by rw [hn3]; exact List.length_eq_zero_iff.symm
  have es : ns = [] ↔ n4 = 0 := by rw [hn4]; exact List.length_eq_zero_iff.symm
  have en := emp_iff nm
  have hx1 : nm.size ≤ 9223372036854775807 := hnm
  have hx3 : n3 ≤ 16777216 := by omega
  have hx4 : n4 ≤ 16777216 := by omega
  simp only [Nd.ptr]
  have hB := below_alloc1 W (.cells #[.pointer (some ⟨d.b, d.o, none⟩)] 119)
  have hc0 := hc.below hB hb
  have hb0 := Nat.lt_of_lt_of_le hb hB.size
  rw [← hn3, ← hn4] at hc0
  obtain ⟨r, hr⟩ : ∃ r, r = only 8 (!nm.toList.isEmpty) (mn || decide (0 < n3)) (decide (0 < n4)) (decide (0 < kn)) (decide (0 < an)) := ⟨_, rfl⟩
  have HO := hide (fun V (b : Below (W.alloc (.cells #[.pointer (some ⟨d.b, d.o, none⟩)] 119)).heap.size (W.alloc (.cells #[.pointer (some ⟨d.b, d.o, none⟩)] 119)) V) => i_only 8 d 5 nm mn la na ka aa n3 lc n4 nc kn kc an ac V (hc0.below b hb0) (Nat.lt_of_lt_of_le hb0 b.size) r hr)
  simp only [Nd.ptr] at HO
  have c1 := hc0 1 _ rfl
  have c2 := hc0 2 _ rfl
  have c3 := hc0 3 _ rfl
  have c4 := hc0 4 _ rfl
  have c5 := hc0 5 _ rfl
  have c6 := hc0 6 _ rfl
  have HB := hide hB
  rw [only_8] at hr
  have hqa : q = (decide ((1 : Int) < kn) && r) := Bool.eq_iff_iff.2 (hq.trans (by rw [hr, hal, el, es]; exact lg5 _ _ _ _ _ _ _ en))
  cases hA : decide ((1 : Int) < kn) with
  | true =>
    have HQ : Hid (q = r) := by unfold Hid; rw [hqa, hA]; rfl
    have g' : (1 : Int) < kn := by simpa using hA
    clear hq hr el es en hn3 hn4 hc hc0 hB hl hn hal hnz hb hb0 hnm hqa hA
    go_enter Try.func93, Try.ntmps93
    go_wp2_with (refine (HO.out _ (Below.refl _ _)).mono ?_; rintro e w1 ⟨rfl, b1⟩)
    go_ret
    exact ⟨by rw [HQ.out]; rfl, HB.out.trans (b1.mono HB.out.size)⟩
  | false =>
    have HQ : Hid (q = false) := by unfold Hid; rw [hqa, hA]; rfl
    have g' : ¬ (1 : Int) < kn := by simpa using hA
    clear hq hr el es en hn3 hn4 hc hc0 hB hl hn hal hnz hb hb0 hnm hqa hA
    go_enter Try.func93, Try.ntmps93
    go_wp2_with fail
    go_ret
    exact ⟨by rw [HQ.out]; rfl, HB.out⟩

set_option maxHeartbeats 2000000 in
set_option maxRecDepth 100000 in
theorem i_big (mn : Bool) (a : Option Addr) (c : Nat) (lm : List Int) (W : World) (nb : Nat) (hnb : nb ≤ W.heap.size) (hs : LR W (fun b => b < nb) a c lm) (q : Bool) (hq : q = true ↔ bigBad mn lm) :
    Calls Try.prog 89 #[.agg #[.bool mn, .slice a lm.length c]] W fun e W' => e = .returned (.bool q) ∧ Below W.heap.size W W' := by
  obtain ⟨n, hn⟩ : ∃ n, n = lm.length := ⟨_, rfl⟩
  have hmx : n ≤ 9223372036854775807 := by have h2 := hs.le; have h3 := hs.mx; simp only [maxLen] at h3; omega
  have HB := hide (below_alloc1 W (.cells #[.bool mn, .slice a n c] 32))
  rw [← hn]
  by_cases g2 : 0 < n
  · have hne : lm ≠ [] := fun e => by rw [e] at hn; simp at hn; omega
    have g3' : ¬ (n : Int) = 0 := by omega
    by_cases g1 : 40 < n
    · have HQ : Hid (q = true) := hq.2 (.inl (by omega))
      have g1' : (40 : Int) < n := by omega
      clear hq hs hn hne
      go_enter Try.func89, Try.ntmps89
      go_wp2_with fail
      go_ret
      exact ⟨by rw [HQ.out]; rfl, HB.out⟩
    have g1' : ¬ (40 : Int) < n := by omega
    have hs' := hs.below HB.out (fun b hb => by omega)
    obtain ⟨b, o, rfl, -, hc⟩ := hs'.at_ hne
    obtain ⟨y, hy⟩ : ∃ y, lm[n - 1]? = some y := ⟨_, List.getElem?_eq_getElem (by omega)⟩
    have y0 := hc (n - 1) y hy
    obtain ⟨n1, hn1⟩ : ∃ n1, n = n1 + 1 := ⟨n - 1, by omega⟩
    have e1 : n - 1 = n1 := by omega
    rw [e1] at y0
    by_cases g3 : y = 0
    · have HQ : Hid (q = true) := hq.2 (.inr (.inl ⟨hne, by rw [← hn, hy, g3]⟩))
      have e2 : (n : Int) - 1 = n1 := by omega
      have e3 : (n1 : Int) < n := by omega
      clear hq hs hn hs' hc hy hne hn1 e1
      subst g3
      go_enter Try.func89, Try.ntmps89
      go_wp2_with fail
      go_ret
      exact ⟨by rw [HQ.out]; rfl, HB.out⟩
    · have HQ : Hid (q = false) := by
        cases hqq : q with
        | false => rfl
        | true =>
          rcases hq.1 hqq with h | ⟨-, h⟩ | ⟨h, -⟩
          · omega
          · rw [← hn, hy] at h; exact absurd (Option.some.inj h) g3
          · exact absurd h hne
      have e2 : (n : Int) - 1 = n1 := by omega
      have e3 : (n1 : Int) < n := by omega
      have g3'' : (y == 0) = false := by rw [beq_eq_false_iff_ne]; exact g3
      clear hq hs hn hs' hc hy hne hn1 e1
      go_enter Try.func89, Try.ntmps89
      go_wp2_with fail
      go_ret
      exact ⟨by rw [HQ.out]; rfl, HB.out⟩
  · have e0 : n = 0 := by omega
    have hne : lm = [] := List.length_eq_zero_iff.1 (by omega)
    have HQ : Hid (q = mn) := by
      cases hm : mn with
      | true => exact hq.2 (.inr (.inr ⟨hne, hm⟩))
      | false =>
        cases hqq : q with
        | false => rfl
        | true =>
          rcases hq.1 hqq with h | ⟨h, -⟩ | ⟨-, h⟩
          · omega
          · exact absurd hne h
          · rw [hm] at h; cases h
    clear hq hs hn hne
    subst e0
    go_enter Try.func89, Try.ntmps89
    go_wp2_with fail
    go_ret
    exact ⟨by rw [HQ.out]; rfl, HB.out⟩

set_option maxHeartbeats 2000000 in
set_option maxRecDepth 100000 in
theorem i_binds (d : Nd) (k : Int) (nm : ByteArray) (mn : Bool) (la na ka aa : Option Addr) (lc nc kn kc an ac : Nat) (lm : List Int) (ns : List ByteArray) (al : Tm) (W : World) (hh : Wc d k nm mn la na ka aa lc nc kn kc an ac lm ns al W) (q : Bool) (hq : q = true ↔ (¬ ns = [] ∧ okNames ns)) :
    Calls Try.prog 81 #[.agg #[d.ptr]] W fun e W' => e = .returned (.bool q) ∧ Below W.heap.size W W' := by
  obtain ⟨hc, hb, hl, hn, hmx, hnz, hkn, han, hal, hnm⟩ := hh
  simp only [Nd.ptr]
  have hB := below_alloc1 W (.cells #[.pointer (some ⟨d.b, d.o, none⟩)] 113)
  have hc0 := hc.below hB hb
  have c4 := hc0 4 _ rfl
  have HB := hide hB
  by_cases g : ns = []
  · have HQ : Hid (q = false) := by
      cases hqq : q with
      | false => rfl
      | true => exact absurd g (hq.1 hqq).1
    rw [g] at c4
    clear hq hc hc0 hB hl hn hal hnz hb hnm g
    go_enter Try.func81, Try.ntmps81
    go_wp2_with fail
    go_ret
    exact ⟨by rw [HQ.out]; rfl, HB.out⟩
  · have hqn : q = true ↔ okNames ns := by rw [hq]; exact ⟨fun h => h.2, fun h => ⟨g, h⟩⟩
    have HN := hide (i_names na nc ns _ W.heap.size hB.size hmx.1 (hn.below hB (fun b hb => hb)) hnz q hqn)
    obtain ⟨n4, hn4⟩ : ∃ n, n = ns.length := ⟨_, rfl⟩
    have hp : (0 : Int) < n4 := by have := List.length_pos_iff.2 g; omega
    have hx4 : n4 ≤ 16777216 := by omega
    rw [← hn4] at HN c4
    clear hq hc hc0 hB hl hn hal hnz hb hnm g hn4 hqn
    go_enter Try.func81, Try.ntmps81
    go_wp2_with (refine HN.out.mono ?_; rintro e w1 ⟨rfl, b1⟩)
    go_ret
    exact ⟨rfl, HB.out.trans (b1.mono HB.out.size)⟩


end Go.Proofs.Ytcnokpaicnjkfaa

namespace Go.Proofs.Ytcnokpaicnjkfaa
open Go.RowKit Go.Joins

theorem Wc.below {d : Nd} {k : Int} {nm : ByteArray} {mn : Bool} {la na ka aa : Option Addr} {lc nc kn kc an ac : Nat} {lm : List Int} {ns : List ByteArray} {al : Tm} {W V : World} (h : Wc d k nm mn la na ka aa lc nc kn kc an ac lm ns al W) (hB : Below W.heap.size W V) : Wc d k nm mn la na ka aa lc nc kn kc an ac lm ns al V := by
  obtain ⟨hc, hb, hl, hn, hmx, hnz, hkn, han, hal, hnm⟩ := h
  refine ⟨hc.below hB hb, Nat.lt_of_lt_of_le hb hB.size, ?_, ?_, hmx, hnz, hkn, han, hal, hnm⟩
  · have h1 := hl.below hB (fun b hb => hb)
    exact ⟨h1.le, h1.mx, fun hl => by obtain ⟨b, o, e, s, c⟩ := h1.at_ hl; exact ⟨b, o, e, Nat.lt_of_lt_of_le s hB.size, c⟩⟩
  · have h1 := hn.below hB (fun b hb => hb)
    exact ⟨h1.le, h1.mx, fun hl => by obtain ⟨b, o, e, s, c⟩ := h1.at_ hl; exact ⟨b, o, e, Nat.lt_of_lt_of_le s hB.size, c⟩⟩

theorem lg2 (P B : Prop) (e qb : Bool) (n4 kn an : Nat) (en : e = true ↔ P) (hb : qb = true ↔ B) : (an = 0 ∧ n4 = 0 ∧ P ∧ kn = 0 ∧ ¬ B) ↔ ((!qb) && (!(!e) && !decide (0 < n4) && !decide (0 < kn) && !decide (0 < an))) = true := by
  cases e <;> cases qb <;> simp at en hb <;> simp [en, hb] <;> omega
theorem lg6 (P S B : Prop) (e m bn : Bool) (n3 an kn : Nat) (en : e = true ↔ P) (hb : bn = true ↔ (¬ S ∧ B)) : (n3 = 0 ∧ m = false ∧ an = 0 ∧ P ∧ kn = 1 ∧ ¬ S ∧ B) ↔ ((decide ((kn : Int) = 1) && bn) && (!(!e) && !(m || decide (0 < n3)) && !decide (0 < an))) = true := by
  rw [← hb]
  cases e <;> cases m <;> cases bn <;> simp at en <;> simp [en] <;> omega
theorem lg7 (P S B : Prop) (e m bn : Bool) (n3 n4 an kn : Nat) (en : e = true ↔ P) (hb : bn = true ↔ (¬ S ∧ B)) : (n3 = 0 ∧ m = false ∧ an = 0 ∧ P ∧ ¬ S ∧ kn = n4 + 1 ∧ B) ↔ ((decide ((kn : Int) = n4 + 1) && bn) && (!(!e) && !(m || decide (0 < n3)) && !decide (0 < an))) = true := by
  have h : (n3 = 0 ∧ m = false ∧ an = 0 ∧ P ∧ ¬ S ∧ kn = n4 + 1 ∧ B) ↔ (n3 = 0 ∧ m = false ∧ an = 0 ∧ P ∧ kn = n4 + 1 ∧ (¬ S ∧ B)) := ⟨fun ⟨a, b, c, d, e, f, g⟩ => ⟨a, b, c, d, f, e, g⟩, fun ⟨a, b, c, d, e, f, g⟩ => ⟨a, b, c, d, f, e, g⟩⟩
  rw [h, ← hb]
  cases e <;> cases m <;> cases bn <;> simp at en <;> simp [en] <;> omega
theorem lg9 (m : Bool) (p : Int) (n3 n4 an kn : Nat) : (n3 = 0 ∧ m = false ∧ an = 0 ∧ n4 = 0 ∧ 0 < p ∧ (kn : Int) = p) ↔ ((decide ((0 : Int) < kn) && decide ((kn : Int) = p)) && (!(m || decide (0 < n3)) && !decide (0 < n4) && !decide (0 < an))) = true := by
  cases m <;> simp <;> omega

set_option maxHeartbeats 2000000 in
set_option maxRecDepth 100000 in
theorem w_2 (d : Nd) (con : ByteArray) (cs : List ByteArray) (nm : ByteArray) (mn : Bool) (la na ka aa : Option Addr) (lc nc kn kc an ac : Nat) (lm : List Int) (ns : List ByteArray) (al : Tm) (W : World) (hh : Wc d 2 nm mn la na ka aa lc nc kn kc an ac lm ns al W) (q : Bool) (hq : q = true ↔ shp ⟨con, cs, 2, nm, mn, lm, ns⟩ kn al) :
    Calls Try.prog 87 #[.agg #[d.ptr]] W fun e W' => e = .returned (.bool q) ∧ Below W.heap.size W W' := by
  obtain ⟨hc, hb, hl, hn, hmx, hnz, hkn, han, hal, hnm⟩ := hh
  rw [shp_2] at hq
  obtain ⟨n3, hn3⟩ : ∃ n, n = lm.length := ⟨_, rfl⟩
  obtain ⟨n4, hn4⟩ : ∃ n, n = ns.length := ⟨_, rfl⟩
  have el : lm = [] ↔ n3 = 0 := by rw [hn3]; exact List.length_eq_zero_iff.symm
  have es : ns = [] ↔ n4 = 0 := by rw [hn4]; exact List.length_eq_zero_iff.symm
  have en := emp_iff nm
  have hx1 : nm.size ≤ 9223372036854775807 := hnm
  have hx3 : n3 ≤ 16777216 := by omega
  have hx4 : n4 ≤ 16777216 := by omega
  simp only [Nd.ptr]
  have hB := below_alloc1 W (.cells #[.pointer (some ⟨d.b, d.o, none⟩)] 116)
  have hc0 := hc.below hB hb
  have hb0 := Nat.lt_of_lt_of_le hb hB.size
  rw [← hn3, ← hn4] at hc0
  obtain ⟨r, hr⟩ : ∃ r, r = only 2 (!nm.toList.isEmpty) (mn || decide (0 < n3)) (decide (0 < n4)) (decide (0 < kn)) (decide (0 < an)) := ⟨_, rfl⟩
  have HO := hide (fun V (b : Below (W.alloc (.cells #[.pointer (some ⟨d.b, d.o, none⟩)] 116)).heap.size (W.alloc (.cells #[.pointer (some ⟨d.b, d.o, none⟩)] 116)) V) => i_only 2 d 2 nm mn la na ka aa n3 lc n4 nc kn kc an ac V (hc0.below b hb0) (Nat.lt_of_lt_of_le hb0 b.size) r hr)
  simp only [Nd.ptr] at HO
  have c1 := hc0 1 _ rfl
  have c2 := hc0 2 _ rfl
  have c3 := hc0 3 _ rfl
  have c4 := hc0 4 _ rfl
  have c5 := hc0 5 _ rfl
  have c6 := hc0 6 _ rfl
  have HB := hide hB
  rw [only_2] at hr
  obtain ⟨qb, hqb⟩ : ∃ qb : Bool, qb = true ↔ bigBad mn lm := by
    by_cases h : bigBad mn lm
    · exact ⟨true, by simp [h]⟩
    · exact ⟨false, by simp [h]⟩
  have HG := hide (i_big mn la lc lm _ W.heap.size hB.size (hl.below hB (fun b hb => hb)) qb hqb)
  rw [← hn3] at HG
  have hqa : q = (!qb && r) := Bool.eq_iff_iff.2 (hq.trans (by rw [hr, hal, es]; exact lg2 _ _ _ _ _ _ _ en hqb))
  have HQ := hide hqa
  clear hqb
  clear hq hr el es en hn3 hn4 hc hc0 hB hl hn hal hnz hb hb0 hnm hqa
  cases qb with
  | true =>
    go_enter Try.func87, Try.ntmps87
    go_wp2_with (refine HG.out.mono ?_; rintro e w1 ⟨rfl, b1⟩)
    go_ret
    exact ⟨by rw [HQ.out]; rfl, HB.out.trans (b1.mono HB.out.size)⟩
  | false =>
    go_enter Try.func87, Try.ntmps87
    go_wp2_with (first | (refine HG.out.mono ?_; rintro e w1 ⟨rfl, b1⟩; have hbx1 := (b1.cell (p := ⟨W.heap.size, 0, none⟩) (by simp)).trans (show _ = some (.pointer (some ⟨d.b, d.o, none⟩)) by simp)) | (refine (HO.out _ b1).mono ?_; rintro e w2 ⟨rfl, b2⟩))
    go_ret
    exact ⟨by rw [HQ.out]; rfl, HB.out.trans ((b1.trans (b2.mono b1.size)).mono HB.out.size)⟩

set_option maxHeartbeats 2000000 in
set_option maxRecDepth 100000 in
theorem w_10 (d : Nd) (con : ByteArray) (cs : List ByteArray) (nm : ByteArray) (mn : Bool) (la na ka aa : Option Addr) (lc nc kn kc an ac : Nat) (lm : List Int) (ns : List ByteArray) (al : Tm) (W : World) (hh : Wc d 10 nm mn la na ka aa lc nc kn kc an ac lm ns al W) (q : Bool) (hq : q = true ↔ shp ⟨con, cs, 10, nm, mn, lm, ns⟩ kn al) :
    Calls Try.prog 105 #[.agg #[d.ptr]] W fun e W' => e = .returned (.bool q) ∧ Below W.heap.size W W' := by
  obtain ⟨hc, hb, hl, hn, hmx, hnz, hkn, han, hal, hnm⟩ := hh
  rw [shp_10] at hq
  obtain ⟨n3, hn3⟩ : ∃ n, n = lm.length := ⟨_, rfl⟩
  obtain ⟨n4, hn4⟩ : ∃ n, n = ns.length := ⟨_, rfl⟩
  have el : lm = [] ↔ n3 = 0 := by rw [hn3]; exact List.length_eq_zero_iff.symm
  have es : ns = [] ↔ n4 = 0 := by rw [hn4]; exact List.length_eq_zero_iff.symm
  have en := emp_iff nm
  have hx1 : nm.size ≤ 9223372036854775807 := hnm
  have hx3 : n3 ≤ 16777216 := by omega
  have hx4 : n4 ≤ 16777216 := by omega
  simp only [Nd.ptr]
  have hB := below_alloc1 W (.cells #[.pointer (some ⟨d.b, d.o, none⟩)] 124)
  have hc0 := hc.below hB hb
  have hb0 := Nat.lt_of_lt_of_le hb hB.size
  rw [← hn3, ← hn4] at hc0
  obtain ⟨r, hr⟩ : ∃ r, r = only 1 (!nm.toList.isEmpty) (mn || decide (0 < n3)) (decide (0 < n4)) (decide (0 < kn)) (decide (0 < an)) := ⟨_, rfl⟩
  have HO := hide (fun V (b : Below (W.alloc (.cells #[.pointer (some ⟨d.b, d.o, none⟩)] 124)).heap.size (W.alloc (.cells #[.pointer (some ⟨d.b, d.o, none⟩)] 124)) V) => i_only 1 d 10 nm mn la na ka aa n3 lc n4 nc kn kc an ac V (hc0.below b hb0) (Nat.lt_of_lt_of_le hb0 b.size) r hr)
  simp only [Nd.ptr] at HO
  have c1 := hc0 1 _ rfl
  have c2 := hc0 2 _ rfl
  have c3 := hc0 3 _ rfl
  have c4 := hc0 4 _ rfl
  have c5 := hc0 5 _ rfl
  have c6 := hc0 6 _ rfl
  have HB := hide hB
  rw [only_1] at hr
  have hqa : q = ((!nm.toList.isEmpty && decide ((nm.size : Int) ≤ 60000)) && r) := Bool.eq_iff_iff.2 (hq.trans (by rw [hr, hal, el, es]; exact lg10 _ _ _ _ _ _ _ _ en))
  have HQ := hide hqa
  cases g0 : nm.toList.isEmpty with
  | true =>
    have HF : Hid (q = false) := by unfold Hid; rw [HQ.out, g0]; rfl
    clear HQ
    clear hq hr el es en hn3 hn4 hc hc0 hB hl hn hal hnz hb hb0 hnm hqa
    go_enter Try.func105, Try.ntmps105
    go_wp2_with fail
    go_ret
    exact ⟨by rw [HF.out]; rfl, HB.out⟩
  | false =>
    by_cases g1 : (nm.size : Int) ≤ 60000
    · have HF : Hid (q = r) := by unfold Hid; rw [HQ.out, g0, decide_eq_true g1]; rfl
      clear HQ
      clear hq hr el es en hn3 hn4 hc hc0 hB hl hn hal hnz hb hb0 hnm hqa
      go_enter Try.func105, Try.ntmps105
      go_wp2_with (refine (HO.out _ (Below.refl _ _)).mono ?_; rintro e w1 ⟨rfl, b1⟩)
      go_ret
      exact ⟨by rw [HF.out]; rfl, HB.out.trans (b1.mono HB.out.size)⟩
    · have HF : Hid (q = false) := by unfold Hid; rw [HQ.out, g0, decide_eq_false g1]; rfl
      clear HQ
      clear hq hr el es en hn3 hn4 hc hc0 hB hl hn hal hnz hb hb0 hnm hqa
      go_enter Try.func105, Try.ntmps105
      go_wp2_with fail
      go_ret
      exact ⟨by rw [HF.out]; rfl, HB.out⟩

set_option maxHeartbeats 2000000 in
set_option maxRecDepth 100000 in
theorem w_6 (d : Nd) (con : ByteArray) (cs : List ByteArray) (nm : ByteArray) (mn : Bool) (la na ka aa : Option Addr) (lc nc kn kc an ac : Nat) (lm : List Int) (ns : List ByteArray) (al : Tm) (W : World) (hh : Wc d 6 nm mn la na ka aa lc nc kn kc an ac lm ns al W) (q : Bool) (hq : q = true ↔ shp ⟨con, cs, 6, nm, mn, lm, ns⟩ kn al) :
    Calls Try.prog 95 #[.agg #[d.ptr]] W fun e W' => e = .returned (.bool q) ∧ Below W.heap.size W W' := by
  obtain ⟨hc, hb, hl, hn, hmx, hnz, hkn, han, hal, hnm⟩ := hh
  rw [shp_6] at hq
  obtain ⟨n3, hn3⟩ : ∃ n, n = lm.length := ⟨_, rfl⟩
  obtain ⟨n4, hn4⟩ : ∃ n, n = ns.length := ⟨_, rfl⟩
  have el : lm = [] ↔ n3 = 0 := by rw [hn3]; exact List.length_eq_zero_iff.symm
  have es : ns = [] ↔ n4 = 0 := by rw [hn4]; exact List.length_eq_zero_iff.symm
  have en := emp_iff nm
  have hx1 : nm.size ≤ 9223372036854775807 := hnm
  have hx3 : n3 ≤ 16777216 := by omega
  have hx4 : n4 ≤ 16777216 := by omega
  simp only [Nd.ptr]
  have hB := below_alloc1 W (.cells #[.pointer (some ⟨d.b, d.o, none⟩)] 120)
  have hc0 := hc.below hB hb
  have hb0 := Nat.lt_of_lt_of_le hb hB.size
  rw [← hn3, ← hn4] at hc0
  obtain ⟨r, hr⟩ : ∃ r, r = only 12 (!nm.toList.isEmpty) (mn || decide (0 < n3)) (decide (0 < n4)) (decide (0 < kn)) (decide (0 < an)) := ⟨_, rfl⟩
  have HO := hide (fun V (b : Below (W.alloc (.cells #[.pointer (some ⟨d.b, d.o, none⟩)] 120)).heap.size (W.alloc (.cells #[.pointer (some ⟨d.b, d.o, none⟩)] 120)) V) => i_only 12 d 6 nm mn la na ka aa n3 lc n4 nc kn kc an ac V (hc0.below b hb0) (Nat.lt_of_lt_of_le hb0 b.size) r hr)
  simp only [Nd.ptr] at HO
  have c1 := hc0 1 _ rfl
  have c2 := hc0 2 _ rfl
  have c3 := hc0 3 _ rfl
  have c4 := hc0 4 _ rfl
  have c5 := hc0 5 _ rfl
  have c6 := hc0 6 _ rfl
  have HB := hide hB
  rw [only_12] at hr
  obtain ⟨bn, hbn⟩ : ∃ bn : Bool, bn = true ↔ (¬ ns = [] ∧ okNames ns) := by
    by_cases h : ¬ ns = [] ∧ okNames ns
    · exact ⟨true, by simp only [true_iff]; exact h⟩
    · exact ⟨false, by simp only [Bool.false_eq_true, false_iff]; exact h⟩
  have HW : Hid (Wc d 6 nm mn la na ka aa lc nc kn kc an ac lm ns al (W.alloc (.cells #[.pointer (some ⟨d.b, d.o, none⟩)] 120))) := Wc.below ⟨hc, hb, hl, hn, hmx, hnz, hkn, han, hal, hnm⟩ hB
  have HG := hide (i_binds d 6 nm mn la na ka aa lc nc kn kc an ac lm ns al _ HW.out bn hbn)
  simp only [Nd.ptr] at HG
  have hqa : q = ((decide ((kn : Int) = 1) && bn) && r) := Bool.eq_iff_iff.2 (hq.trans (by rw [hr, hal, el]; exact lg6 _ _ _ _ _ _ _ _ _ en hbn))
  have HQ := hide hqa
  by_cases g0 : (kn : Int) = 1
  · cases bn with
    | true =>
      have HF : Hid (q = r) := by unfold Hid; rw [HQ.out, decide_eq_true g0]; rfl
      clear HQ
      clear hq hr el es en hn3 hn4 hc hc0 hB hl hn hal hnz hb hb0 hnm hqa hbn HW
      go_enter Try.func95, Try.ntmps95
      go_wp2_with (first | (refine HG.out.mono ?_; rintro e w1 ⟨rfl, b1⟩; have hbx1 := (b1.cell (p := ⟨W.heap.size, 0, none⟩) (by simp)).trans (show _ = some (.pointer (some ⟨d.b, d.o, none⟩)) by simp)) | (refine (HO.out _ b1).mono ?_; rintro e w2 ⟨rfl, b2⟩))
      go_ret
      exact ⟨by rw [HF.out]; rfl, HB.out.trans ((b1.trans (b2.mono b1.size)).mono HB.out.size)⟩
    | false =>
      have HF : Hid (q = false) := by unfold Hid; rw [HQ.out, decide_eq_true g0]; rfl
      clear HQ
      clear hq hr el es en hn3 hn4 hc hc0 hB hl hn hal hnz hb hb0 hnm hqa hbn HW
      go_enter Try.func95, Try.ntmps95
      go_wp2_with (refine HG.out.mono ?_; rintro e w1 ⟨rfl, b1⟩)
      go_ret
      exact ⟨by rw [HF.out]; rfl, HB.out.trans (b1.mono HB.out.size)⟩
  · have HF : Hid (q = false) := by unfold Hid; rw [HQ.out, decide_eq_false g0]; rfl
    clear HQ
    clear hq hr el es en hn3 hn4 hc hc0 hB hl hn hal hnz hb hb0 hnm hqa hbn HW
    go_enter Try.func95, Try.ntmps95
    go_wp2_with fail
    go_ret
    exact ⟨by rw [HF.out]; rfl, HB.out⟩


end Go.Proofs.Ytcnokpaicnjkfaa

namespace Go.Proofs.Ytcnokpaicnjkfaa
open Go.RowKit Go.Joins

set_option maxHeartbeats 2000000 in
set_option maxRecDepth 100000 in
theorem w_7 (d : Nd) (con : ByteArray) (cs : List ByteArray) (nm : ByteArray) (mn : Bool) (la na ka aa : Option Addr) (lc nc kn kc an ac : Nat) (lm : List Int) (ns : List ByteArray) (al : Tm) (W : World) (hh : Wc d 7 nm mn la na ka aa lc nc kn kc an ac lm ns al W) (q : Bool) (hq : q = true ↔ shp ⟨con, cs, 7, nm, mn, lm, ns⟩ kn al) :
    Calls Try.prog 98 #[.agg #[d.ptr]] W fun e W' => e = .returned (.bool q) ∧ Below W.heap.size W W' := by
  obtain ⟨hc, hb, hl, hn, hmx, hnz, hkn, han, hal, hnm⟩ := hh
  rw [shp_7] at hq
  obtain ⟨n3, hn3⟩ : ∃ n, n = lm.length := ⟨_, rfl⟩
  obtain ⟨n4, hn4⟩ : ∃ n, n = ns.length := ⟨_, rfl⟩
  have el : lm = [] ↔ n3 = 0 := by rw [hn3]; exact List.length_eq_zero_iff.symm
  have es : ns = [] ↔ n4 = 0 := by rw [hn4]; exact List.length_eq_zero_iff.symm
  have en := emp_iff nm
  have hx1 : nm.size ≤ 9223372036854775807 := hnm
  have hx3 : n3 ≤ 16777216 := by omega
  have hx4 : n4 ≤ 16777216 := by omega
  simp only [Nd.ptr]
  have hB := below_alloc1 W (.cells #[.pointer (some ⟨d.b, d.o, none⟩)] 121)
  have hc0 := hc.below hB hb
  have hb0 := Nat.lt_of_lt_of_le hb hB.size
  rw [← hn3, ← hn4] at hc0
  obtain ⟨r, hr⟩ : ∃ r, r = only 12 (!nm.toList.isEmpty) (mn || decide (0 < n3)) (decide (0 < n4)) (decide (0 < kn)) (decide (0 < an)) := ⟨_, rfl⟩
  have HO := hide (fun V (b : Below (W.alloc (.cells #[.pointer (some ⟨d.b, d.o, none⟩)] 121)).heap.size (W.alloc (.cells #[.pointer (some ⟨d.b, d.o, none⟩)] 121)) V) => i_only 12 d 7 nm mn la na ka aa n3 lc n4 nc kn kc an ac V (hc0.below b hb0) (Nat.lt_of_lt_of_le hb0 b.size) r hr)
  simp only [Nd.ptr] at HO
  have c1 := hc0 1 _ rfl
  have c2 := hc0 2 _ rfl
  have c3 := hc0 3 _ rfl
  have c4 := hc0 4 _ rfl
  have c5 := hc0 5 _ rfl
  have c6 := hc0 6 _ rfl
  have HB := hide hB
  rw [only_12] at hr
  obtain ⟨bn, hbn⟩ : ∃ bn : Bool, bn = true ↔ (¬ ns = [] ∧ okNames ns) := by
    by_cases h : ¬ ns = [] ∧ okNames ns
    · exact ⟨true, by simp only [true_iff]; exact h⟩
    · exact ⟨false, by simp only [Bool.false_eq_true, false_iff]; exact h⟩
  have HW : Hid (Wc d 7 nm mn la na ka aa lc nc kn kc an ac lm ns al (W.alloc (.cells #[.pointer (some ⟨d.b, d.o, none⟩)] 121))) := Wc.below ⟨hc, hb, hl, hn, hmx, hnz, hkn, han, hal, hnm⟩ hB
  have HG := hide (fun V (b : Below (W.alloc (.cells #[.pointer (some ⟨d.b, d.o, none⟩)] 121)).heap.size (W.alloc (.cells #[.pointer (some ⟨d.b, d.o, none⟩)] 121)) V) => i_binds d 7 nm mn la na ka aa lc nc kn kc an ac lm ns al V (HW.out.below b) bn hbn)
  simp only [Nd.ptr] at HG
  have hqa : q = ((decide ((kn : Int) = n4 + 1) && bn) && r) := Bool.eq_iff_iff.2 (hq.trans (by rw [hr, hal, el, ← hn4]; exact lg7 _ _ _ _ _ _ _ _ _ _ en hbn))
  have HQ := hide hqa
  have HS : Hid (∀ V, Below (W.alloc (.cells #[.pointer (some ⟨d.b, d.o, none⟩)] 121)).heap.size (W.alloc (.cells #[.pointer (some ⟨d.b, d.o, none⟩)] 121)) V → V.cell? ⟨W.heap.size, 0, none⟩ = some (.pointer (some ⟨d.b, d.o, none⟩)) ∧ V.cell? ⟨d.b, d.o + 4, none⟩ = some (.slice na n4 nc) ∧ V.cell? ⟨d.b, d.o + 5, none⟩ = some (.slice ka kn kc)) := fun V b => ⟨(b.cell (p := ⟨W.heap.size, 0, none⟩) (by simp)).trans (by simp), hc0.below b hb0 4 _ rfl, hc0.below b hb0 5 _ rfl⟩
  have kk0 := HS.out _ (Below.refl _ _).drew
  have hwn : IntKind.i64.wrap ((n4 : Int) + 1) = n4 + 1 := by rw [IntKind.wrap_i64]; omega
  by_cases g0 : (kn : Int) = n4 + 1
  · cases bn with
    | true =>
      have HF : Hid (q = r) := by unfold Hid; rw [HQ.out, decide_eq_true g0]; rfl
      clear HQ
      clear hq hr el es en hn3 hn4 hc hc0 hB hl hn hal hnz hb hb0 hnm hqa hbn HW c1 c2 c3 c4 c5 c6
      go_enter Try.func98, Try.ntmps98
      go_upto_region 1 with fail
      go_region_held3 (fun V => V.cell? ⟨W.heap.size, 0, none⟩ = some (.pointer (some ⟨d.b, d.o, none⟩)) ∧ V.cell? ⟨d.b, d.o + 4, none⟩ = some (.slice na n4 nc) ∧ V.cell? ⟨d.b, d.o + 5, none⟩ = some (.slice ka kn kc))
        (first | with_reducible exact kk0 | with_reducible exact kk1 | with_reducible exact kk2)
        (first | (go_at_call 81; refine (HG.out _ (Below.refl _ _).drew).mono ?_; rintro e w1 ⟨rfl, b1⟩; have hb1 := (Below.refl _ _).drew.trans (b1.mono (Nat.le_refl _)); have kk1 := HS.out w1 hb1) | (go_at_call 86; refine (HO.out _ hb1).mono ?_; rintro e w2 ⟨rfl, b2⟩; have hb2 := hb1.trans (b2.mono hb1.size); have kk2 := HS.out w2 hb2) | fail)
      go_wp2_with fail
      go_ret
      exact ⟨by rw [HF.out]; rfl, HB.out.trans (hb2.mono HB.out.size)⟩
    | false =>
      have HF : Hid (q = false) := by unfold Hid; rw [HQ.out, decide_eq_true g0]; rfl
      clear HQ
      clear hq hr el es en hn3 hn4 hc hc0 hB hl hn hal hnz hb hb0 hnm hqa hbn HW c1 c2 c3 c4 c5 c6
      go_enter Try.func98, Try.ntmps98
      go_upto_region 1 with fail
      refine wp_region_held_drew (S := fun V => V.cell? ⟨W.heap.size, 0, none⟩ = some (.pointer (some ⟨d.b, d.o, none⟩)) ∧ V.cell? ⟨d.b, d.o + 4, none⟩ = some (.slice na n4 nc) ∧ V.cell? ⟨d.b, d.o + 5, none⟩ = some (.slice ka kn kc)) (by kernel_rfl) kk0 (fun hHeld => ?_)
      refine' wpAnyH_take (i := 0) (oi := { dst := some 3, op := Op.fieldAddr 121 (Operand.tmp 1) 0, type := 0, pos := "l13_core.go:382", after := #[], guard := none }) (v := _) rfl (by kernel_rfl) (by kernel_rfl) (by kernel_rfl) (fun _ _ _ h => h) (Or.inl ⟨by rfl, ?hy0b⟩) (by assumption) ?rest0b
      case hy0b => (intro w hSw; (try dsimp only at hSw); go_simp; (try with_reducible rfl))
      try simp only [Act.put, List.setIfInBounds_toArray, List.set_cons_zero, List.set_cons_succ]
      refine' wpAnyH_take (i := 1) (oi := { dst := some 4, op := Op.fieldAddr 113 (Operand.tmp 3) 0, type := 0, pos := "l13_core.go:382", after := #[{ on := 0, ground := Ground.data }], guard := none }) (v := _) rfl (by kernel_rfl) (by kernel_rfl) (by kernel_rfl) (fun _ _ _ h => h) (Or.inl ⟨by rfl, ?hy1b⟩) (by assumption) ?rest1b
      case hy1b => (intro w hSw; (try dsimp only at hSw); go_simp; (try with_reducible rfl))
      try simp only [Act.put, List.setIfInBounds_toArray, List.set_cons_zero, List.set_cons_succ]
      refine' wpAnyH_take (i := 2) (oi := { dst := some 5, op := Op.load 58 (Operand.tmp 4), type := 58, pos := "l13_core.go:382", after := #[{ on := 1, ground := Ground.data }], guard := none }) (v := _) rfl (by kernel_rfl) (by kernel_rfl) (by kernel_rfl) (fun _ _ _ h => h) (Or.inl ⟨by rfl, ?hy2b⟩) (by assumption) ?rest2b
      case hy2b => (intro w hSw; (try dsimp only at hSw); go_simp; (try with_reducible rfl))
      try simp only [Act.put, List.setIfInBounds_toArray, List.set_cons_zero, List.set_cons_succ]
      refine' wpAnyH_take (i := 3) (oi := { dst := some 6, op := Op.nilCheck (Operand.tmp 5), type := 0, pos := "l13_core.go:382", after := #[{ on := 2, ground := Ground.data }], guard := none }) (v := _) rfl (by kernel_rfl) (by kernel_rfl) (by kernel_rfl) (fun _ _ _ h => h) (Or.inl ⟨by rfl, ?hy3b⟩) (by assumption) ?rest3b
      case hy3b => (intro w hSw; (try dsimp only at hSw); go_simp; (try with_reducible rfl))
      try simp only [Act.put, List.setIfInBounds_toArray, List.set_cons_zero, List.set_cons_succ]
      refine' wpAnyH_take (i := 4) (oi := { dst := some 7, op := Op.fieldAddr 36 (Operand.tmp 6) 4, type := 0, pos := "l13_core.go:382", after := #[{ on := 3, ground := Ground.data }], guard := none }) (v := _) rfl (by kernel_rfl) (by kernel_rfl) (by kernel_rfl) (fun _ _ _ h => h) (Or.inl ⟨by rfl, ?hy4b⟩) (by assumption) ?rest4b
      case hy4b => (intro w hSw; (try dsimp only at hSw); go_simp; (try with_reducible rfl))
      try simp only [Act.put, List.setIfInBounds_toArray, List.set_cons_zero, List.set_cons_succ]
      refine' wpAnyH_take (i := 5) (oi := { dst := some 8, op := Op.load 33 (Operand.tmp 7), type := 33, pos := "l13_core.go:382", after := #[{ on := 4, ground := Ground.data }], guard := none }) (v := _) rfl (by kernel_rfl) (by kernel_rfl) (by kernel_rfl) (fun _ _ _ h => h) (Or.inl ⟨by rfl, ?hy5b⟩) (by assumption) ?rest5b
      case hy5b => (intro w hSw; (try dsimp only at hSw); go_simp; (try with_reducible rfl))
      try simp only [Act.put, List.setIfInBounds_toArray, List.set_cons_zero, List.set_cons_succ]
      refine' wpAnyH_take (i := 6) (oi := { dst := some 9, op := Op.call { callee := Callee.builtin Builtin.len, args := #[Operand.tmp 8], argTypes := #[33] }, type := 3, pos := "l13_core.go:382", after := #[{ on := 5, ground := Ground.data }], guard := none }) (v := _) rfl (by kernel_rfl) (by kernel_rfl) (by kernel_rfl) (fun _ _ _ h => h) (Or.inl ⟨by rfl, ?hy6b⟩) (by assumption) ?rest6b
      case hy6b => (intro w hSw; (try dsimp only at hSw); go_simp; (try with_reducible rfl))
      try simp only [Act.put, List.setIfInBounds_toArray, List.set_cons_zero, List.set_cons_succ]
      refine' wpAnyH_take (i := 7) (oi := { dst := some 10, op := Op.fieldAddr 121 (Operand.tmp 1) 0, type := 0, pos := "l13_core.go:382", after := #[], guard := none }) (v := _) rfl (by kernel_rfl) (by kernel_rfl) (by kernel_rfl) (fun _ _ _ h => h) (Or.inl ⟨by rfl, ?hy7b⟩) (by assumption) ?rest7b
      case hy7b => (intro w hSw; (try dsimp only at hSw); go_simp; (try with_reducible rfl))
      try simp only [Act.put, List.setIfInBounds_toArray, List.set_cons_zero, List.set_cons_succ]
      refine' wpAnyH_take (i := 8) (oi := { dst := some 11, op := Op.fieldAddr 113 (Operand.tmp 10) 0, type := 0, pos := "l13_core.go:382", after := #[{ on := 7, ground := Ground.data }], guard := none }) (v := _) rfl (by kernel_rfl) (by kernel_rfl) (by kernel_rfl) (fun _ _ _ h => h) (Or.inl ⟨by rfl, ?hy8b⟩) (by assumption) ?rest8b
      case hy8b => (intro w hSw; (try dsimp only at hSw); go_simp; (try with_reducible rfl))
      try simp only [Act.put, List.setIfInBounds_toArray, List.set_cons_zero, List.set_cons_succ]
      refine' wpAnyH_take (i := 9) (oi := { dst := some 12, op := Op.load 58 (Operand.tmp 11), type := 58, pos := "l13_core.go:382", after := #[{ on := 8, ground := Ground.data }], guard := none }) (v := _) rfl (by kernel_rfl) (by kernel_rfl) (by kernel_rfl) (fun _ _ _ h => h) (Or.inl ⟨by rfl, ?hy9b⟩) (by assumption) ?rest9b
      case hy9b => (intro w hSw; (try dsimp only at hSw); go_simp; (try with_reducible rfl))
      try simp only [Act.put, List.setIfInBounds_toArray, List.set_cons_zero, List.set_cons_succ]
      refine' wpAnyH_take (i := 10) (oi := { dst := some 13, op := Op.nilCheck (Operand.tmp 12), type := 0, pos := "l13_core.go:382", after := #[{ on := 9, ground := Ground.data }], guard := none }) (v := _) rfl (by kernel_rfl) (by kernel_rfl) (by kernel_rfl) (fun _ _ _ h => h) (Or.inl ⟨by rfl, ?hy10b⟩) (by assumption) ?rest10b
      case hy10b => (intro w hSw; (try dsimp only at hSw); go_simp; (try with_reducible rfl))
      try simp only [Act.put, List.setIfInBounds_toArray, List.set_cons_zero, List.set_cons_succ]
      refine' wpAnyH_take (i := 11) (oi := { dst := some 14, op := Op.fieldAddr 36 (Operand.tmp 13) 3, type := 0, pos := "l13_core.go:382", after := #[{ on := 10, ground := Ground.data }], guard := none }) (v := _) rfl (by kernel_rfl) (by kernel_rfl) (by kernel_rfl) (fun _ _ _ h => h) (Or.inl ⟨by rfl, ?hy11b⟩) (by assumption) ?rest11b
      case hy11b => (intro w hSw; (try dsimp only at hSw); go_simp; (try with_reducible rfl))
      try simp only [Act.put, List.setIfInBounds_toArray, List.set_cons_zero, List.set_cons_succ]
      refine' wpAnyH_take (i := 12) (oi := { dst := some 15, op := Op.load 25 (Operand.tmp 14), type := 25, pos := "l13_core.go:382", after := #[{ on := 11, ground := Ground.data }], guard := none }) (v := _) rfl (by kernel_rfl) (by kernel_rfl) (by kernel_rfl) (fun _ _ _ h => h) (Or.inl ⟨by rfl, ?hy12b⟩) (by assumption) ?rest12b
      case hy12b => (intro w hSw; (try dsimp only at hSw); go_simp; (try with_reducible rfl))
      try simp only [Act.put, List.setIfInBounds_toArray, List.set_cons_zero, List.set_cons_succ]
      refine' wpAnyH_take (i := 13) (oi := { dst := some 16, op := Op.call { callee := Callee.builtin Builtin.len, args := #[Operand.tmp 15], argTypes := #[25] }, type := 3, pos := "l13_core.go:382", after := #[{ on := 12, ground := Ground.data }], guard := none }) (v := _) rfl (by kernel_rfl) (by kernel_rfl) (by kernel_rfl) (fun _ _ _ h => h) (Or.inl ⟨by rfl, ?hy13b⟩) (by assumption) ?rest13b
      case hy13b => (intro w hSw; (try dsimp only at hSw); go_simp; (try with_reducible rfl))
      try simp only [Act.put, List.setIfInBounds_toArray, List.set_cons_zero, List.set_cons_succ]
      refine' wpAnyH_take (i := 14) (oi := { dst := some 17, op := Op.binOp BinOp.add 3 (Operand.tmp 16) (Operand.const (Value.int IntKind.i64 1)) 3, type := 3, pos := "l13_core.go:382", after := #[{ on := 13, ground := Ground.data }], guard := none }) (v := _) rfl (by kernel_rfl) (by kernel_rfl) (by kernel_rfl) (fun _ _ _ h => h) (Or.inl ⟨by rfl, ?hy14b⟩) (by assumption) ?rest14b
      case hy14b => (intro w hSw; (try dsimp only at hSw); go_simp; (try with_reducible rfl))
      try simp only [Act.put, List.setIfInBounds_toArray, List.set_cons_zero, List.set_cons_succ]
      refine' wpAnyH_take (i := 15) (oi := { dst := some 18, op := Op.binOp BinOp.eql 3 (Operand.tmp 9) (Operand.tmp 17) 3, type := 4, pos := "l13_core.go:382", after := #[{ on := 6, ground := Ground.data }, { on := 14, ground := Ground.data }], guard := none }) (v := _) rfl (by kernel_rfl) (by kernel_rfl) (by kernel_rfl) (fun _ _ _ h => h) (Or.inl ⟨by rfl, ?hy15b⟩) (by assumption) ?rest15b
      case hy15b => (intro w hSw; (try dsimp only at hSw); go_simp; (try with_reducible rfl))
      try simp only [Act.put, List.setIfInBounds_toArray, List.set_cons_zero, List.set_cons_succ]
      refine' wpAnyH_take (i := 16) (oi := { dst := some 19, op := Op.move (Operand.tmp 18), type := 4, pos := "l13_core.go:382", after := #[{ on := 15, ground := Ground.data }], guard := none }) (v := _) rfl (by kernel_rfl) (by kernel_rfl) (by kernel_rfl) (fun _ _ _ h => h) (Or.inl ⟨by rfl, ?hy16b⟩) (by assumption) ?rest16b
      case hy16b => (intro w hSw; (try dsimp only at hSw); go_simp; (try with_reducible rfl))
      try simp only [Act.put, List.setIfInBounds_toArray, List.set_cons_zero, List.set_cons_succ]
      refine' wpAnyH_take (i := 17) (oi := { dst := some 20, op := Op.fieldAddr 121 (Operand.tmp 1) 0, type := 0, pos := "l13_core.go:382", after := #[{ on := 16, ground := Ground.guard }], guard := some (16, true) }) (v := _) rfl (by kernel_rfl) (by kernel_rfl) (by kernel_rfl) (fun _ _ _ h => h) (Or.inl ⟨by rfl, ?hy17b⟩) (by assumption) ?rest17b
      case hy17b => (intro w hSw; (try dsimp only at hSw); go_simp; (try with_reducible rfl))
      try simp only [Act.put, List.setIfInBounds_toArray, List.set_cons_zero, List.set_cons_succ]
      refine' wpAnyH_take (i := 18) (oi := { dst := some 21, op := Op.load 113 (Operand.tmp 20), type := 113, pos := "l13_core.go:382", after := #[{ on := 17, ground := Ground.data }, { on := 16, ground := Ground.guard }], guard := some (16, true) }) (v := _) rfl (by kernel_rfl) (by kernel_rfl) (by kernel_rfl) (fun _ _ _ h => h) (Or.inl ⟨by rfl, ?hy18b⟩) (by assumption) ?rest18b
      case hy18b => (intro w hSw; (try dsimp only at hSw); go_simp; (try with_reducible rfl))
      try simp only [Act.put, List.setIfInBounds_toArray, List.set_cons_zero, List.set_cons_succ]
      refine wpAnyH_ready (rs := [19]) (by kernel_rfl) (by simp) ?_
      refine AllReadyH.cons (o := { dst := some 22, op := Op.call { callee := Callee.value (Operand.func 81), args := #[Operand.tmp 21], argTypes := #[113] }, type := 4, pos := "l13_core.go:382", after := #[{ on := 18, ground := Ground.data }, { on := 16, ground := Ground.chain }, { on := 16, ground := Ground.guard }], guard := some (16, true) }) rfl (fun K hK => ?_) AllReadyH.nil
      go_simp
      refine (HG.out _ (Below.refl _ _).drew).mono ?_
      rintro e w1 ⟨rfl, b1⟩
      have hb1 := (Below.refl _ _).drew.trans (b1.mono (Nat.le_refl _))
      have kk1 := HS.out w1 hb1
      refine hK.out _ _ kk1 (fun hHeld => ?_)
      clear hK K
      try simp only [Act.put, List.setIfInBounds_toArray, List.set_cons_zero, List.set_cons_succ]
      refine' wpAnyH_take (i := 20) (oi := { dst := some 23, op := Op.pick (Operand.tmp 19) (Operand.tmp 22) (Operand.const (Value.bool false)), type := 4, pos := "l13_core.go:382", after := #[{ on := 16, ground := Ground.data }, { on := 19, ground := Ground.data }], guard := none }) (v := _) rfl (by kernel_rfl) (by kernel_rfl) (by kernel_rfl) (fun _ _ _ h => h) (Or.inl ⟨by rfl, ?hy20b⟩) (by assumption) ?rest20b
      case hy20b => (intro w hSw; (try dsimp only at hSw); go_simp; (try with_reducible rfl))
      try simp only [Act.put, List.setIfInBounds_toArray, List.set_cons_zero, List.set_cons_succ]
      refine' wpAnyH_take (i := 21) (oi := { dst := some 24, op := Op.move (Operand.tmp 23), type := 4, pos := "l13_core.go:382", after := #[{ on := 20, ground := Ground.data }, { on := 19, ground := Ground.chain }], guard := none }) (v := _) rfl (by kernel_rfl) (by kernel_rfl) (by kernel_rfl) (fun _ _ _ h => h) (Or.inl ⟨by rfl, ?hy21b⟩) (by assumption) ?rest21b
      case hy21b => (intro w hSw; (try dsimp only at hSw); go_simp; (try with_reducible rfl))
      try simp only [Act.put, List.setIfInBounds_toArray, List.set_cons_zero, List.set_cons_succ]
      refine' wpAnyH_take (i := 22) (oi := { dst := some 25, op := Op.fieldAddr 121 (Operand.tmp 1) 0, type := 0, pos := "l13_core.go:382", after := #[{ on := 21, ground := Ground.guard }], guard := some (21, true) }) (v := _) rfl (by kernel_rfl) (by kernel_rfl) (by kernel_rfl) (fun _ _ _ h => h) (Or.inr ⟨by rfl, by rfl⟩) (by assumption) ?rest22b
      try simp only [Act.put, List.setIfInBounds_toArray, List.set_cons_zero, List.set_cons_succ]
      refine' wpAnyH_take (i := 23) (oi := { dst := some 26, op := Op.load 113 (Operand.tmp 25), type := 113, pos := "l13_core.go:382", after := #[{ on := 22, ground := Ground.data }, { on := 21, ground := Ground.guard }], guard := some (21, true) }) (v := _) rfl (by kernel_rfl) (by kernel_rfl) (by kernel_rfl) (fun _ _ _ h => h) (Or.inr ⟨by rfl, by rfl⟩) (by assumption) ?rest23b
      try simp only [Act.put, List.setIfInBounds_toArray, List.set_cons_zero, List.set_cons_succ]
      refine' wpAnyH_take (i := 24) (oi := { dst := some 27, op := Op.call { callee := Callee.value (Operand.func 86), args := #[Operand.tmp 26, Operand.const (Value.int IntKind.i64 12)], argTypes := #[113, 3] }, type := 4, pos := "l13_core.go:382", after := #[{ on := 23, ground := Ground.data }, { on := 21, ground := Ground.chain }, { on := 21, ground := Ground.guard }], guard := some (21, true) }) (v := _) rfl (by kernel_rfl) (by kernel_rfl) (by kernel_rfl) (fun _ _ _ h => h) (Or.inr ⟨by rfl, by rfl⟩) (by assumption) ?rest24b
      try simp only [Act.put, List.setIfInBounds_toArray, List.set_cons_zero, List.set_cons_succ]
      refine' wpAnyH_take (i := 25) (oi := { dst := some 28, op := Op.pick (Operand.tmp 24) (Operand.tmp 27) (Operand.const (Value.bool false)), type := 4, pos := "l13_core.go:382", after := #[{ on := 21, ground := Ground.data }, { on := 24, ground := Ground.data }], guard := none }) (v := _) rfl (by kernel_rfl) (by kernel_rfl) (by kernel_rfl) (fun _ _ _ h => h) (Or.inl ⟨by rfl, ?hy25b⟩) (by assumption) ?rest25b
      case hy25b => (intro w hSw; (try dsimp only at hSw); go_simp; (try with_reducible rfl))
      try simp only [Act.put, List.setIfInBounds_toArray, List.set_cons_zero, List.set_cons_succ]
      refine' wpAnyH_take (i := 26) (oi := { dst := some 2, op := Op.assign (Operand.tmp 28), type := 4, pos := "l13_core.go:382", after := #[{ on := 25, ground := Ground.data }, { on := 24, ground := Ground.chain }, { on := 0, ground := Ground.phase }, { on := 1, ground := Ground.phase }, { on := 2, ground := Ground.phase }, { on := 3, ground := Ground.phase }, { on := 4, ground := Ground.phase }, { on := 5, ground := Ground.phase }, { on := 6, ground := Ground.phase }, { on := 7, ground := Ground.phase }, { on := 8, ground := Ground.phase }, { on := 9, ground := Ground.phase }, { on := 10, ground := Ground.phase }, { on := 11, ground := Ground.phase }, { on := 12, ground := Ground.phase }, { on := 13, ground := Ground.phase }, { on := 14, ground := Ground.phase }, { on := 15, ground := Ground.phase }, { on := 16, ground := Ground.phase }, { on := 17, ground := Ground.phase }, { on := 18, ground := Ground.phase }, { on := 19, ground := Ground.phase }, { on := 20, ground := Ground.phase }, { on := 21, ground := Ground.phase }, { on := 22, ground := Ground.phase }, { on := 23, ground := Ground.phase }, { on := 24, ground := Ground.phase }, { on := 25, ground := Ground.phase }], guard := none }) (v := _) rfl (by kernel_rfl) (by kernel_rfl) (by kernel_rfl) (fun _ _ _ h => h) (Or.inl ⟨by rfl, ?hy26b⟩) (by assumption) ?rest26b
      case hy26b => (intro w hSw; (try dsimp only at hSw); go_simp; (try with_reducible rfl))
      try simp only [Act.put, List.setIfInBounds_toArray, List.set_cons_zero, List.set_cons_succ]
      refine wpAnyH_done (by kernel_rfl) ?_ _
      go_wp2_with fail
      go_ret
      exact ⟨by rw [HF.out]; rfl, HB.out.trans (hb1.mono HB.out.size)⟩
  · have HF : Hid (q = false) := by unfold Hid; rw [HQ.out, decide_eq_false g0]; rfl
    have g1 : ((kn : Int) == n4 + 1) = false := by rw [beq_eq_false_iff_ne]; exact g0
    clear HQ
    clear hq hr el es en hn3 hn4 hc hc0 hB hl hn hal hnz hb hb0 hnm hqa hbn HW c1 c2 c3 c4 c5 c6
    go_enter Try.func98, Try.ntmps98
    go_upto_region 1 with fail
    refine wp_region_held_drew (S := fun V => V.cell? ⟨W.heap.size, 0, none⟩ = some (.pointer (some ⟨d.b, d.o, none⟩)) ∧ V.cell? ⟨d.b, d.o + 4, none⟩ = some (.slice na n4 nc) ∧ V.cell? ⟨d.b, d.o + 5, none⟩ = some (.slice ka kn kc)) (by kernel_rfl) kk0 (fun hHeld => ?_)
    refine' wpAnyH_take (i := 0) (oi := { dst := some 3, op := Op.fieldAddr 121 (Operand.tmp 1) 0, type := 0, pos := "l13_core.go:382", after := #[], guard := none }) (v := _) rfl (by kernel_rfl) (by kernel_rfl) (by kernel_rfl) (fun _ _ _ h => h) (Or.inl ⟨by rfl, ?hy0c⟩) (by assumption) ?rest0c
    case hy0c => (intro w hSw; (try dsimp only at hSw); go_simp; (try with_reducible rfl))
    try simp only [Act.put, List.setIfInBounds_toArray, List.set_cons_zero, List.set_cons_succ]
    refine' wpAnyH_take (i := 1) (oi := { dst := some 4, op := Op.fieldAddr 113 (Operand.tmp 3) 0, type := 0, pos := "l13_core.go:382", after := #[{ on := 0, ground := Ground.data }], guard := none }) (v := _) rfl (by kernel_rfl) (by kernel_rfl) (by kernel_rfl) (fun _ _ _ h => h) (Or.inl ⟨by rfl, ?hy1c⟩) (by assumption) ?rest1c
    case hy1c => (intro w hSw; (try dsimp only at hSw); go_simp; (try with_reducible rfl))
    try simp only [Act.put, List.setIfInBounds_toArray, List.set_cons_zero, List.set_cons_succ]
    refine' wpAnyH_take (i := 2) (oi := { dst := some 5, op := Op.load 58 (Operand.tmp 4), type := 58, pos := "l13_core.go:382", after := #[{ on := 1, ground := Ground.data }], guard := none }) (v := _) rfl (by kernel_rfl) (by kernel_rfl) (by kernel_rfl) (fun _ _ _ h => h) (Or.inl ⟨by rfl, ?hy2c⟩) (by assumption) ?rest2c
    case hy2c => (intro w hSw; (try dsimp only at hSw); go_simp; (try with_reducible rfl))
    try simp only [Act.put, List.setIfInBounds_toArray, List.set_cons_zero, List.set_cons_succ]
    refine' wpAnyH_take (i := 3) (oi := { dst := some 6, op := Op.nilCheck (Operand.tmp 5), type := 0, pos := "l13_core.go:382", after := #[{ on := 2, ground := Ground.data }], guard := none }) (v := _) rfl (by kernel_rfl) (by kernel_rfl) (by kernel_rfl) (fun _ _ _ h => h) (Or.inl ⟨by rfl, ?hy3c⟩) (by assumption) ?rest3c
    case hy3c => (intro w hSw; (try dsimp only at hSw); go_simp; (try with_reducible rfl))
    try simp only [Act.put, List.setIfInBounds_toArray, List.set_cons_zero, List.set_cons_succ]
    refine' wpAnyH_take (i := 4) (oi := { dst := some 7, op := Op.fieldAddr 36 (Operand.tmp 6) 4, type := 0, pos := "l13_core.go:382", after := #[{ on := 3, ground := Ground.data }], guard := none }) (v := _) rfl (by kernel_rfl) (by kernel_rfl) (by kernel_rfl) (fun _ _ _ h => h) (Or.inl ⟨by rfl, ?hy4c⟩) (by assumption) ?rest4c
    case hy4c => (intro w hSw; (try dsimp only at hSw); go_simp; (try with_reducible rfl))
    try simp only [Act.put, List.setIfInBounds_toArray, List.set_cons_zero, List.set_cons_succ]
    refine' wpAnyH_take (i := 5) (oi := { dst := some 8, op := Op.load 33 (Operand.tmp 7), type := 33, pos := "l13_core.go:382", after := #[{ on := 4, ground := Ground.data }], guard := none }) (v := _) rfl (by kernel_rfl) (by kernel_rfl) (by kernel_rfl) (fun _ _ _ h => h) (Or.inl ⟨by rfl, ?hy5c⟩) (by assumption) ?rest5c
    case hy5c => (intro w hSw; (try dsimp only at hSw); go_simp; (try with_reducible rfl))
    try simp only [Act.put, List.setIfInBounds_toArray, List.set_cons_zero, List.set_cons_succ]
    refine' wpAnyH_take (i := 6) (oi := { dst := some 9, op := Op.call { callee := Callee.builtin Builtin.len, args := #[Operand.tmp 8], argTypes := #[33] }, type := 3, pos := "l13_core.go:382", after := #[{ on := 5, ground := Ground.data }], guard := none }) (v := _) rfl (by kernel_rfl) (by kernel_rfl) (by kernel_rfl) (fun _ _ _ h => h) (Or.inl ⟨by rfl, ?hy6c⟩) (by assumption) ?rest6c
    case hy6c => (intro w hSw; (try dsimp only at hSw); go_simp; (try with_reducible rfl))
    try simp only [Act.put, List.setIfInBounds_toArray, List.set_cons_zero, List.set_cons_succ]
    refine' wpAnyH_take (i := 7) (oi := { dst := some 10, op := Op.fieldAddr 121 (Operand.tmp 1) 0, type := 0, pos := "l13_core.go:382", after := #[], guard := none }) (v := _) rfl (by kernel_rfl) (by kernel_rfl) (by kernel_rfl) (fun _ _ _ h => h) (Or.inl ⟨by rfl, ?hy7c⟩) (by assumption) ?rest7c
    case hy7c => (intro w hSw; (try dsimp only at hSw); go_simp; (try with_reducible rfl))
    try simp only [Act.put, List.setIfInBounds_toArray, List.set_cons_zero, List.set_cons_succ]
    refine' wpAnyH_take (i := 8) (oi := { dst := some 11, op := Op.fieldAddr 113 (Operand.tmp 10) 0, type := 0, pos := "l13_core.go:382", after := #[{ on := 7, ground := Ground.data }], guard := none }) (v := _) rfl (by kernel_rfl) (by kernel_rfl) (by kernel_rfl) (fun _ _ _ h => h) (Or.inl ⟨by rfl, ?hy8c⟩) (by assumption) ?rest8c
    case hy8c => (intro w hSw; (try dsimp only at hSw); go_simp; (try with_reducible rfl))
    try simp only [Act.put, List.setIfInBounds_toArray, List.set_cons_zero, List.set_cons_succ]
    refine' wpAnyH_take (i := 9) (oi := { dst := some 12, op := Op.load 58 (Operand.tmp 11), type := 58, pos := "l13_core.go:382", after := #[{ on := 8, ground := Ground.data }], guard := none }) (v := _) rfl (by kernel_rfl) (by kernel_rfl) (by kernel_rfl) (fun _ _ _ h => h) (Or.inl ⟨by rfl, ?hy9c⟩) (by assumption) ?rest9c
    case hy9c => (intro w hSw; (try dsimp only at hSw); go_simp; (try with_reducible rfl))
    try simp only [Act.put, List.setIfInBounds_toArray, List.set_cons_zero, List.set_cons_succ]
    refine' wpAnyH_take (i := 10) (oi := { dst := some 13, op := Op.nilCheck (Operand.tmp 12), type := 0, pos := "l13_core.go:382", after := #[{ on := 9, ground := Ground.data }], guard := none }) (v := _) rfl (by kernel_rfl) (by kernel_rfl) (by kernel_rfl) (fun _ _ _ h => h) (Or.inl ⟨by rfl, ?hy10c⟩) (by assumption) ?rest10c
    case hy10c => (intro w hSw; (try dsimp only at hSw); go_simp; (try with_reducible rfl))
    try simp only [Act.put, List.setIfInBounds_toArray, List.set_cons_zero, List.set_cons_succ]
    refine' wpAnyH_take (i := 11) (oi := { dst := some 14, op := Op.fieldAddr 36 (Operand.tmp 13) 3, type := 0, pos := "l13_core.go:382", after := #[{ on := 10, ground := Ground.data }], guard := none }) (v := _) rfl (by kernel_rfl) (by kernel_rfl) (by kernel_rfl) (fun _ _ _ h => h) (Or.inl ⟨by rfl, ?hy11c⟩) (by assumption) ?rest11c
    case hy11c => (intro w hSw; (try dsimp only at hSw); go_simp; (try with_reducible rfl))
    try simp only [Act.put, List.setIfInBounds_toArray, List.set_cons_zero, List.set_cons_succ]
    refine' wpAnyH_take (i := 12) (oi := { dst := some 15, op := Op.load 25 (Operand.tmp 14), type := 25, pos := "l13_core.go:382", after := #[{ on := 11, ground := Ground.data }], guard := none }) (v := _) rfl (by kernel_rfl) (by kernel_rfl) (by kernel_rfl) (fun _ _ _ h => h) (Or.inl ⟨by rfl, ?hy12c⟩) (by assumption) ?rest12c
    case hy12c => (intro w hSw; (try dsimp only at hSw); go_simp; (try with_reducible rfl))
    try simp only [Act.put, List.setIfInBounds_toArray, List.set_cons_zero, List.set_cons_succ]
    refine' wpAnyH_take (i := 13) (oi := { dst := some 16, op := Op.call { callee := Callee.builtin Builtin.len, args := #[Operand.tmp 15], argTypes := #[25] }, type := 3, pos := "l13_core.go:382", after := #[{ on := 12, ground := Ground.data }], guard := none }) (v := _) rfl (by kernel_rfl) (by kernel_rfl) (by kernel_rfl) (fun _ _ _ h => h) (Or.inl ⟨by rfl, ?hy13c⟩) (by assumption) ?rest13c
    case hy13c => (intro w hSw; (try dsimp only at hSw); go_simp; (try with_reducible rfl))
    try simp only [Act.put, List.setIfInBounds_toArray, List.set_cons_zero, List.set_cons_succ]
    refine' wpAnyH_take (i := 14) (oi := { dst := some 17, op := Op.binOp BinOp.add 3 (Operand.tmp 16) (Operand.const (Value.int IntKind.i64 1)) 3, type := 3, pos := "l13_core.go:382", after := #[{ on := 13, ground := Ground.data }], guard := none }) (v := _) rfl (by kernel_rfl) (by kernel_rfl) (by kernel_rfl) (fun _ _ _ h => h) (Or.inl ⟨by rfl, ?hy14c⟩) (by assumption) ?rest14c
    case hy14c => (intro w hSw; (try dsimp only at hSw); go_simp; (try with_reducible rfl))
    try simp only [Act.put, List.setIfInBounds_toArray, List.set_cons_zero, List.set_cons_succ]
    refine' wpAnyH_take (i := 15) (oi := { dst := some 18, op := Op.binOp BinOp.eql 3 (Operand.tmp 9) (Operand.tmp 17) 3, type := 4, pos := "l13_core.go:382", after := #[{ on := 6, ground := Ground.data }, { on := 14, ground := Ground.data }], guard := none }) (v := _) rfl (by kernel_rfl) (by kernel_rfl) (by kernel_rfl) (fun _ _ _ h => h) (Or.inl ⟨by rfl, ?hy15c⟩) (by assumption) ?rest15c
    case hy15c => (intro w hSw; (try dsimp only at hSw); go_simp; (try with_reducible rfl))
    try simp only [Act.put, List.setIfInBounds_toArray, List.set_cons_zero, List.set_cons_succ]
    refine' wpAnyH_take (i := 16) (oi := { dst := some 19, op := Op.move (Operand.tmp 18), type := 4, pos := "l13_core.go:382", after := #[{ on := 15, ground := Ground.data }], guard := none }) (v := _) rfl (by kernel_rfl) (by kernel_rfl) (by kernel_rfl) (fun _ _ _ h => h) (Or.inl ⟨by rfl, ?hy16c⟩) (by assumption) ?rest16c
    case hy16c => (intro w hSw; (try dsimp only at hSw); go_simp; (try with_reducible rfl))
    try simp only [Act.put, List.setIfInBounds_toArray, List.set_cons_zero, List.set_cons_succ]
    refine' wpAnyH_take (i := 17) (oi := { dst := some 20, op := Op.fieldAddr 121 (Operand.tmp 1) 0, type := 0, pos := "l13_core.go:382", after := #[{ on := 16, ground := Ground.guard }], guard := some (16, true) }) (v := _) rfl (by kernel_rfl) (by kernel_rfl) (by kernel_rfl) (fun _ _ _ h => h) (Or.inr ⟨by rfl, by rfl⟩) (by assumption) ?rest17c
    try simp only [Act.put, List.setIfInBounds_toArray, List.set_cons_zero, List.set_cons_succ]
    refine' wpAnyH_take (i := 18) (oi := { dst := some 21, op := Op.load 113 (Operand.tmp 20), type := 113, pos := "l13_core.go:382", after := #[{ on := 17, ground := Ground.data }, { on := 16, ground := Ground.guard }], guard := some (16, true) }) (v := _) rfl (by kernel_rfl) (by kernel_rfl) (by kernel_rfl) (fun _ _ _ h => h) (Or.inr ⟨by rfl, by rfl⟩) (by assumption) ?rest18c
    try simp only [Act.put, List.setIfInBounds_toArray, List.set_cons_zero, List.set_cons_succ]
    refine' wpAnyH_take (i := 19) (oi := { dst := some 22, op := Op.call { callee := Callee.value (Operand.func 81), args := #[Operand.tmp 21], argTypes := #[113] }, type := 4, pos := "l13_core.go:382", after := #[{ on := 18, ground := Ground.data }, { on := 16, ground := Ground.chain }, { on := 16, ground := Ground.guard }], guard := some (16, true) }) (v := _) rfl (by kernel_rfl) (by kernel_rfl) (by kernel_rfl) (fun _ _ _ h => h) (Or.inr ⟨by rfl, by rfl⟩) (by assumption) ?rest19c
    try simp only [Act.put, List.setIfInBounds_toArray, List.set_cons_zero, List.set_cons_succ]
    refine' wpAnyH_take (i := 20) (oi := { dst := some 23, op := Op.pick (Operand.tmp 19) (Operand.tmp 22) (Operand.const (Value.bool false)), type := 4, pos := "l13_core.go:382", after := #[{ on := 16, ground := Ground.data }, { on := 19, ground := Ground.data }], guard := none }) (v := _) rfl (by kernel_rfl) (by kernel_rfl) (by kernel_rfl) (fun _ _ _ h => h) (Or.inl ⟨by rfl, ?hy20c⟩) (by assumption) ?rest20c
    case hy20c => (intro w hSw; (try dsimp only at hSw); go_simp; (try with_reducible rfl))
    try simp only [Act.put, List.setIfInBounds_toArray, List.set_cons_zero, List.set_cons_succ]
    refine' wpAnyH_take (i := 21) (oi := { dst := some 24, op := Op.move (Operand.tmp 23), type := 4, pos := "l13_core.go:382", after := #[{ on := 20, ground := Ground.data }, { on := 19, ground := Ground.chain }], guard := none }) (v := _) rfl (by kernel_rfl) (by kernel_rfl) (by kernel_rfl) (fun _ _ _ h => h) (Or.inl ⟨by rfl, ?hy21c⟩) (by assumption) ?rest21c
    case hy21c => (intro w hSw; (try dsimp only at hSw); go_simp; (try with_reducible rfl))
    try simp only [Act.put, List.setIfInBounds_toArray, List.set_cons_zero, List.set_cons_succ]
    refine' wpAnyH_take (i := 22) (oi := { dst := some 25, op := Op.fieldAddr 121 (Operand.tmp 1) 0, type := 0, pos := "l13_core.go:382", after := #[{ on := 21, ground := Ground.guard }], guard := some (21, true) }) (v := _) rfl (by kernel_rfl) (by kernel_rfl) (by kernel_rfl) (fun _ _ _ h => h) (Or.inr ⟨by rfl, by rfl⟩) (by assumption) ?rest22c
    try simp only [Act.put, List.setIfInBounds_toArray, List.set_cons_zero, List.set_cons_succ]
    refine' wpAnyH_take (i := 23) (oi := { dst := some 26, op := Op.load 113 (Operand.tmp 25), type := 113, pos := "l13_core.go:382", after := #[{ on := 22, ground := Ground.data }, { on := 21, ground := Ground.guard }], guard := some (21, true) }) (v := _) rfl (by kernel_rfl) (by kernel_rfl) (by kernel_rfl) (fun _ _ _ h => h) (Or.inr ⟨by rfl, by rfl⟩) (by assumption) ?rest23c
    try simp only [Act.put, List.setIfInBounds_toArray, List.set_cons_zero, List.set_cons_succ]
    refine' wpAnyH_take (i := 24) (oi := { dst := some 27, op := Op.call { callee := Callee.value (Operand.func 86), args := #[Operand.tmp 26, Operand.const (Value.int IntKind.i64 12)], argTypes := #[113, 3] }, type := 4, pos := "l13_core.go:382", after := #[{ on := 23, ground := Ground.data }, { on := 21, ground := Ground.chain }, { on := 21, ground := Ground.guard }], guard := some (21, true) }) (v := _) rfl (by kernel_rfl) (by kernel_rfl) (by kernel_rfl) (fun _ _ _ h => h) (Or.inr ⟨by rfl, by rfl⟩) (by assumption) ?rest24c
    try simp only [Act.put, List.setIfInBounds_toArray, List.set_cons_zero, List.set_cons_succ]
    refine' wpAnyH_take (i := 25) (oi := { dst := some 28, op := Op.pick (Operand.tmp 24) (Operand.tmp 27) (Operand.const (Value.bool false)), type := 4, pos := "l13_core.go:382", after := #[{ on := 21, ground := Ground.data }, { on := 24, ground := Ground.data }], guard := none }) (v := _) rfl (by kernel_rfl) (by kernel_rfl) (by kernel_rfl) (fun _ _ _ h => h) (Or.inl ⟨by rfl, ?hy25c⟩) (by assumption) ?rest25c
    case hy25c => (intro w hSw; (try dsimp only at hSw); go_simp; (try with_reducible rfl))
    try simp only [Act.put, List.setIfInBounds_toArray, List.set_cons_zero, List.set_cons_succ]
    refine' wpAnyH_take (i := 26) (oi := { dst := some 2, op := Op.assign (Operand.tmp 28), type := 4, pos := "l13_core.go:382", after := #[{ on := 25, ground := Ground.data }, { on := 24, ground := Ground.chain }, { on := 0, ground := Ground.phase }, { on := 1, ground := Ground.phase }, { on := 2, ground := Ground.phase }, { on := 3, ground := Ground.phase }, { on := 4, ground := Ground.phase }, { on := 5, ground := Ground.phase }, { on := 6, ground := Ground.phase }, { on := 7, ground := Ground.phase }, { on := 8, ground := Ground.phase }, { on := 9, ground := Ground.phase }, { on := 10, ground := Ground.phase }, { on := 11, ground := Ground.phase }, { on := 12, ground := Ground.phase }, { on := 13, ground := Ground.phase }, { on := 14, ground := Ground.phase }, { on := 15, ground := Ground.phase }, { on := 16, ground := Ground.phase }, { on := 17, ground := Ground.phase }, { on := 18, ground := Ground.phase }, { on := 19, ground := Ground.phase }, { on := 20, ground := Ground.phase }, { on := 21, ground := Ground.phase }, { on := 22, ground := Ground.phase }, { on := 23, ground := Ground.phase }, { on := 24, ground := Ground.phase }, { on := 25, ground := Ground.phase }], guard := none }) (v := _) rfl (by kernel_rfl) (by kernel_rfl) (by kernel_rfl) (fun _ _ _ h => h) (Or.inl ⟨by rfl, ?hy26c⟩) (by assumption) ?rest26c
    case hy26c => (intro w hSw; (try dsimp only at hSw); go_simp; (try with_reducible rfl))
    try simp only [Act.put, List.setIfInBounds_toArray, List.set_cons_zero, List.set_cons_succ]
    refine wpAnyH_done (by kernel_rfl) ?_ _
    go_wp2_with fail
    go_ret
    exact ⟨by rw [HF.out]; rfl, HB.out.trans ((Below.refl _ _).drew.mono HB.out.size)⟩


end Go.Proofs.Ytcnokpaicnjkfaa

namespace Go.Proofs.Ytcnokpaicnjkfaa
open Go.RowKit Go.Joins

set_option maxHeartbeats 2000000 in
set_option maxRecDepth 100000 in
theorem w_9 (d : Nd) (con : ByteArray) (cs : List ByteArray) (nm : ByteArray) (mn : Bool) (la na ka aa : Option Addr) (lc nc kn kc an ac : Nat) (lm : List Int) (ns : List ByteArray) (al : Tm) (W : World) (hh : Wc d 9 nm mn la na ka aa lc nc kn kc an ac lm ns al W) (q : Bool) (hq : q = true ↔ shp ⟨con, cs, 9, nm, mn, lm, ns⟩ kn al) :
    Calls Try.prog 103 #[.agg #[d.ptr]] W fun e W' => e = .returned (.bool q) ∧ Below W.heap.size W W' := by
  obtain ⟨hc, hb, hl, hn, hmx, hnz, hkn, han, hal, hnm⟩ := hh
  rw [shp_9] at hq
  obtain ⟨n3, hn3⟩ : ∃ n, n = lm.length := ⟨_, rfl⟩
  obtain ⟨n4, hn4⟩ : ∃ n, n = ns.length := ⟨_, rfl⟩
  have el : lm = [] ↔ n3 = 0 := by rw [hn3]; exact List.length_eq_zero_iff.symm
  have es : ns = [] ↔ n4 = 0 := by rw [hn4]; exact List.length_eq_zero_iff.symm
  have en := emp_iff nm
  have hx1 : nm.size ≤ 9223372036854775807 := hnm
  have hx3 : n3 ≤ 16777216 := by omega
  have hx4 : n4 ≤ 16777216 := by omega
  simp only [Nd.ptr]
  have hB := below_alloc1 W (.cells #[.pointer (some ⟨d.b, d.o, none⟩)] 123)
  have hc0 := hc.below hB hb
  have hb0 := Nat.lt_of_lt_of_le hb hB.size
  rw [← hn3, ← hn4] at hc0
  obtain ⟨r, hr⟩ : ∃ r, r = only 9 (!nm.toList.isEmpty) (mn || decide (0 < n3)) (decide (0 < n4)) (decide (0 < kn)) (decide (0 < an)) := ⟨_, rfl⟩
  have HO := hide (fun V (b : Below (W.alloc (.cells #[.pointer (some ⟨d.b, d.o, none⟩)] 123)).heap.size (W.alloc (.cells #[.pointer (some ⟨d.b, d.o, none⟩)] 123)) V) => i_only 9 d 9 nm mn la na ka aa n3 lc n4 nc kn kc an ac V (hc0.below b hb0) (Nat.lt_of_lt_of_le hb0 b.size) r hr)
  simp only [Nd.ptr] at HO
  have c1 := hc0 1 _ rfl
  have c2 := hc0 2 _ rfl
  have c3 := hc0 3 _ rfl
  have c4 := hc0 4 _ rfl
  have c5 := hc0 5 _ rfl
  have c6 := hc0 6 _ rfl
  have HB := hide hB
  rw [only_9] at hr
  obtain ⟨p, hp⟩ : ∃ p, p = pcF nm := ⟨_, rfl⟩
  have HP := hide (fun V => iPrim nm V)
  rw [← hp] at hq HP
  have hqa : q = ((decide ((0 : Int) < kn) && decide ((kn : Int) = p)) && r) := Bool.eq_iff_iff.2 (hq.trans (by rw [hr, hal, el, es]; exact lg9 _ _ _ _ _ _))
  have HQ := hide hqa
  have HS : Hid (∀ V, Below (W.alloc (.cells #[.pointer (some ⟨d.b, d.o, none⟩)] 123)).heap.size (W.alloc (.cells #[.pointer (some ⟨d.b, d.o, none⟩)] 123)) V → V.cell? ⟨W.heap.size, 0, none⟩ = some (.pointer (some ⟨d.b, d.o, none⟩)) ∧ V.cell? ⟨d.b, d.o + 1, none⟩ = some (.string nm) ∧ V.cell? ⟨d.b, d.o + 5, none⟩ = some (.slice ka kn kc)) := fun V b => ⟨(b.cell (p := ⟨W.heap.size, 0, none⟩) (by simp)).trans (by simp), hc0.below b hb0 1 _ rfl, hc0.below b hb0 5 _ rfl⟩
  have kk0 := HS.out _ (Below.refl _ _).drew
  by_cases g0 : (0 : Int) < kn
  · have g0n : 0 < kn := by omega
    by_cases g1 : (kn : Int) = p
    · have HF : Hid (q = r) := by unfold Hid; rw [HQ.out, decide_eq_true g0, decide_eq_true g1]; rfl
      clear HQ
      clear hq hr el es en hn3 hn4 hc hc0 hB hl hn hal hnz hb hb0 hnm hqa hp c1 c2 c3 c4 c5 c6
      subst g1
      go_enter Try.func103, Try.ntmps103
      go_upto_region 1 with fail
      refine wp_region_held_drew (S := fun V => V.cell? ⟨W.heap.size, 0, none⟩ = some (.pointer (some ⟨d.b, d.o, none⟩)) ∧ V.cell? ⟨d.b, d.o + 1, none⟩ = some (.string nm) ∧ V.cell? ⟨d.b, d.o + 5, none⟩ = some (.slice ka kn kc)) (by kernel_rfl) kk0 (fun hHeld => ?_)
      refine' wpAnyH_take (i := 0) (oi := { dst := some 3, op := Op.fieldAddr 123 (Operand.tmp 1) 0, type := 0, pos := "l13_core.go:398", after := #[], guard := none }) (v := _) rfl (by kernel_rfl) (by kernel_rfl) (by kernel_rfl) (fun _ _ _ h => h) (Or.inl ⟨by rfl, ?hy0a⟩) (by assumption) ?rest0a
      case hy0a => (intro w hSw; (try dsimp only at hSw); go_simp; (try with_reducible rfl))
      try simp only [Act.put, List.setIfInBounds_toArray, List.set_cons_zero, List.set_cons_succ]
      refine' wpAnyH_take (i := 1) (oi := { dst := some 4, op := Op.fieldAddr 113 (Operand.tmp 3) 0, type := 0, pos := "l13_core.go:398", after := #[{ on := 0, ground := Ground.data }], guard := none }) (v := _) rfl (by kernel_rfl) (by kernel_rfl) (by kernel_rfl) (fun _ _ _ h => h) (Or.inl ⟨by rfl, ?hy1a⟩) (by assumption) ?rest1a
      case hy1a => (intro w hSw; (try dsimp only at hSw); go_simp; (try with_reducible rfl))
      try simp only [Act.put, List.setIfInBounds_toArray, List.set_cons_zero, List.set_cons_succ]
      refine' wpAnyH_take (i := 2) (oi := { dst := some 5, op := Op.load 58 (Operand.tmp 4), type := 58, pos := "l13_core.go:398", after := #[{ on := 1, ground := Ground.data }], guard := none }) (v := _) rfl (by kernel_rfl) (by kernel_rfl) (by kernel_rfl) (fun _ _ _ h => h) (Or.inl ⟨by rfl, ?hy2a⟩) (by assumption) ?rest2a
      case hy2a => (intro w hSw; (try dsimp only at hSw); go_simp; (try with_reducible rfl))
      try simp only [Act.put, List.setIfInBounds_toArray, List.set_cons_zero, List.set_cons_succ]
      refine' wpAnyH_take (i := 3) (oi := { dst := some 6, op := Op.nilCheck (Operand.tmp 5), type := 0, pos := "l13_core.go:398", after := #[{ on := 2, ground := Ground.data }], guard := none }) (v := _) rfl (by kernel_rfl) (by kernel_rfl) (by kernel_rfl) (fun _ _ _ h => h) (Or.inl ⟨by rfl, ?hy3a⟩) (by assumption) ?rest3a
      case hy3a => (intro w hSw; (try dsimp only at hSw); go_simp; (try with_reducible rfl))
      try simp only [Act.put, List.setIfInBounds_toArray, List.set_cons_zero, List.set_cons_succ]
      refine' wpAnyH_take (i := 4) (oi := { dst := some 7, op := Op.fieldAddr 36 (Operand.tmp 6) 4, type := 0, pos := "l13_core.go:398", after := #[{ on := 3, ground := Ground.data }], guard := none }) (v := _) rfl (by kernel_rfl) (by kernel_rfl) (by kernel_rfl) (fun _ _ _ h => h) (Or.inl ⟨by rfl, ?hy4a⟩) (by assumption) ?rest4a
      case hy4a => (intro w hSw; (try dsimp only at hSw); go_simp; (try with_reducible rfl))
      try simp only [Act.put, List.setIfInBounds_toArray, List.set_cons_zero, List.set_cons_succ]
      refine' wpAnyH_take (i := 5) (oi := { dst := some 8, op := Op.load 33 (Operand.tmp 7), type := 33, pos := "l13_core.go:398", after := #[{ on := 4, ground := Ground.data }], guard := none }) (v := _) rfl (by kernel_rfl) (by kernel_rfl) (by kernel_rfl) (fun _ _ _ h => h) (Or.inl ⟨by rfl, ?hy5a⟩) (by assumption) ?rest5a
      case hy5a => (intro w hSw; (try dsimp only at hSw); go_simp; (try with_reducible rfl))
      try simp only [Act.put, List.setIfInBounds_toArray, List.set_cons_zero, List.set_cons_succ]
      refine' wpAnyH_take (i := 6) (oi := { dst := some 9, op := Op.call { callee := Callee.builtin Builtin.len, args := #[Operand.tmp 8], argTypes := #[33] }, type := 3, pos := "l13_core.go:398", after := #[{ on := 5, ground := Ground.data }], guard := none }) (v := _) rfl (by kernel_rfl) (by kernel_rfl) (by kernel_rfl) (fun _ _ _ h => h) (Or.inl ⟨by rfl, ?hy6a⟩) (by assumption) ?rest6a
      case hy6a => (intro w hSw; (try dsimp only at hSw); go_simp; (try with_reducible rfl))
      try simp only [Act.put, List.setIfInBounds_toArray, List.set_cons_zero, List.set_cons_succ]
      refine' wpAnyH_take (i := 7) (oi := { dst := some 10, op := Op.binOp BinOp.gtr 3 (Operand.tmp 9) (Operand.const (Value.int IntKind.i64 0)) 3, type := 4, pos := "l13_core.go:398", after := #[{ on := 6, ground := Ground.data }], guard := none }) (v := _) rfl (by kernel_rfl) (by kernel_rfl) (by kernel_rfl) (fun _ _ _ h => h) (Or.inl ⟨by rfl, ?hy7a⟩) (by assumption) ?rest7a
      case hy7a => (intro w hSw; (try dsimp only at hSw); go_simp; (try with_reducible rfl))
      try simp only [Act.put, List.setIfInBounds_toArray, List.set_cons_zero, List.set_cons_succ]
      refine' wpAnyH_take (i := 8) (oi := { dst := some 11, op := Op.move (Operand.tmp 10), type := 4, pos := "l13_core.go:398", after := #[{ on := 7, ground := Ground.data }], guard := none }) (v := _) rfl (by kernel_rfl) (by kernel_rfl) (by kernel_rfl) (fun _ _ _ h => h) (Or.inl ⟨by rfl, ?hy8a⟩) (by assumption) ?rest8a
      case hy8a => (intro w hSw; (try dsimp only at hSw); go_simp; (try with_reducible rfl))
      try simp only [Act.put, List.setIfInBounds_toArray, List.set_cons_zero, List.set_cons_succ]
      refine' wpAnyH_take (i := 9) (oi := { dst := some 12, op := Op.fieldAddr 123 (Operand.tmp 1) 0, type := 0, pos := "l13_core.go:398", after := #[{ on := 8, ground := Ground.guard }], guard := some (8, true) }) (v := _) rfl (by kernel_rfl) (by kernel_rfl) (by kernel_rfl) (fun _ _ _ h => h) (Or.inl ⟨by rfl, ?hy9a⟩) (by assumption) ?rest9a
      case hy9a => (intro w hSw; (try dsimp only at hSw); go_simp; (try with_reducible rfl))
      try simp only [Act.put, List.setIfInBounds_toArray, List.set_cons_zero, List.set_cons_succ]
      refine' wpAnyH_take (i := 10) (oi := { dst := some 13, op := Op.fieldAddr 113 (Operand.tmp 12) 0, type := 0, pos := "l13_core.go:398", after := #[{ on := 9, ground := Ground.data }, { on := 8, ground := Ground.guard }], guard := some (8, true) }) (v := _) rfl (by kernel_rfl) (by kernel_rfl) (by kernel_rfl) (fun _ _ _ h => h) (Or.inl ⟨by rfl, ?hy10a⟩) (by assumption) ?rest10a
      case hy10a => (intro w hSw; (try dsimp only at hSw); go_simp; (try with_reducible rfl))
      try simp only [Act.put, List.setIfInBounds_toArray, List.set_cons_zero, List.set_cons_succ]
      refine' wpAnyH_take (i := 11) (oi := { dst := some 14, op := Op.load 58 (Operand.tmp 13), type := 58, pos := "l13_core.go:398", after := #[{ on := 10, ground := Ground.data }, { on := 8, ground := Ground.guard }], guard := some (8, true) }) (v := _) rfl (by kernel_rfl) (by kernel_rfl) (by kernel_rfl) (fun _ _ _ h => h) (Or.inl ⟨by rfl, ?hy11a⟩) (by assumption) ?rest11a
      case hy11a => (intro w hSw; (try dsimp only at hSw); go_simp; (try with_reducible rfl))
      try simp only [Act.put, List.setIfInBounds_toArray, List.set_cons_zero, List.set_cons_succ]
      refine' wpAnyH_take (i := 12) (oi := { dst := some 15, op := Op.nilCheck (Operand.tmp 14), type := 0, pos := "l13_core.go:398", after := #[{ on := 11, ground := Ground.data }, { on := 8, ground := Ground.guard }], guard := some (8, true) }) (v := _) rfl (by kernel_rfl) (by kernel_rfl) (by kernel_rfl) (fun _ _ _ h => h) (Or.inl ⟨by rfl, ?hy12a⟩) (by assumption) ?rest12a
      case hy12a => (intro w hSw; (try dsimp only at hSw); go_simp; (try with_reducible rfl))
      try simp only [Act.put, List.setIfInBounds_toArray, List.set_cons_zero, List.set_cons_succ]
      refine' wpAnyH_take (i := 13) (oi := { dst := some 16, op := Op.fieldAddr 36 (Operand.tmp 15) 4, type := 0, pos := "l13_core.go:398", after := #[{ on := 12, ground := Ground.data }, { on := 8, ground := Ground.guard }], guard := some (8, true) }) (v := _) rfl (by kernel_rfl) (by kernel_rfl) (by kernel_rfl) (fun _ _ _ h => h) (Or.inl ⟨by rfl, ?hy13a⟩) (by assumption) ?rest13a
      case hy13a => (intro w hSw; (try dsimp only at hSw); go_simp; (try with_reducible rfl))
      try simp only [Act.put, List.setIfInBounds_toArray, List.set_cons_zero, List.set_cons_succ]
      refine' wpAnyH_take (i := 14) (oi := { dst := some 17, op := Op.load 33 (Operand.tmp 16), type := 33, pos := "l13_core.go:398", after := #[{ on := 13, ground := Ground.data }, { on := 8, ground := Ground.guard }], guard := some (8, true) }) (v := _) rfl (by kernel_rfl) (by kernel_rfl) (by kernel_rfl) (fun _ _ _ h => h) (Or.inl ⟨by rfl, ?hy14a⟩) (by assumption) ?rest14a
      case hy14a => (intro w hSw; (try dsimp only at hSw); go_simp; (try with_reducible rfl))
      try simp only [Act.put, List.setIfInBounds_toArray, List.set_cons_zero, List.set_cons_succ]
      refine' wpAnyH_take (i := 15) (oi := { dst := some 18, op := Op.call { callee := Callee.builtin Builtin.len, args := #[Operand.tmp 17], argTypes := #[33] }, type := 3, pos := "l13_core.go:398", after := #[{ on := 14, ground := Ground.data }, { on := 8, ground := Ground.guard }], guard := some (8, true) }) (v := _) rfl (by kernel_rfl) (by kernel_rfl) (by kernel_rfl) (fun _ _ _ h => h) (Or.inl ⟨by rfl, ?hy15a⟩) (by assumption) ?rest15a
      case hy15a => (intro w hSw; (try dsimp only at hSw); go_simp; (try with_reducible rfl))
      try simp only [Act.put, List.setIfInBounds_toArray, List.set_cons_zero, List.set_cons_succ]
      refine' wpAnyH_take (i := 16) (oi := { dst := some 19, op := Op.fieldAddr 123 (Operand.tmp 1) 0, type := 0, pos := "l13_core.go:398", after := #[{ on := 8, ground := Ground.guard }], guard := some (8, true) }) (v := _) rfl (by kernel_rfl) (by kernel_rfl) (by kernel_rfl) (fun _ _ _ h => h) (Or.inl ⟨by rfl, ?hy16a⟩) (by assumption) ?rest16a
      case hy16a => (intro w hSw; (try dsimp only at hSw); go_simp; (try with_reducible rfl))
      try simp only [Act.put, List.setIfInBounds_toArray, List.set_cons_zero, List.set_cons_succ]
      refine' wpAnyH_take (i := 17) (oi := { dst := some 20, op := Op.fieldAddr 113 (Operand.tmp 19) 0, type := 0, pos := "l13_core.go:398", after := #[{ on := 16, ground := Ground.data }, { on := 8, ground := Ground.guard }], guard := some (8, true) }) (v := _) rfl (by kernel_rfl) (by kernel_rfl) (by kernel_rfl) (fun _ _ _ h => h) (Or.inl ⟨by rfl, ?hy17a⟩) (by assumption) ?rest17a
      case hy17a => (intro w hSw; (try dsimp only at hSw); go_simp; (try with_reducible rfl))
      try simp only [Act.put, List.setIfInBounds_toArray, List.set_cons_zero, List.set_cons_succ]
      refine' wpAnyH_take (i := 18) (oi := { dst := some 21, op := Op.load 58 (Operand.tmp 20), type := 58, pos := "l13_core.go:398", after := #[{ on := 17, ground := Ground.data }, { on := 8, ground := Ground.guard }], guard := some (8, true) }) (v := _) rfl (by kernel_rfl) (by kernel_rfl) (by kernel_rfl) (fun _ _ _ h => h) (Or.inl ⟨by rfl, ?hy18a⟩) (by assumption) ?rest18a
      case hy18a => (intro w hSw; (try dsimp only at hSw); go_simp; (try with_reducible rfl))
      try simp only [Act.put, List.setIfInBounds_toArray, List.set_cons_zero, List.set_cons_succ]
      refine' wpAnyH_take (i := 19) (oi := { dst := some 22, op := Op.nilCheck (Operand.tmp 21), type := 0, pos := "l13_core.go:398", after := #[{ on := 18, ground := Ground.data }, { on := 8, ground := Ground.guard }], guard := some (8, true) }) (v := _) rfl (by kernel_rfl) (by kernel_rfl) (by kernel_rfl) (fun _ _ _ h => h) (Or.inl ⟨by rfl, ?hy19a⟩) (by assumption) ?rest19a
      case hy19a => (intro w hSw; (try dsimp only at hSw); go_simp; (try with_reducible rfl))
      try simp only [Act.put, List.setIfInBounds_toArray, List.set_cons_zero, List.set_cons_succ]
      refine' wpAnyH_take (i := 20) (oi := { dst := some 23, op := Op.fieldAddr 36 (Operand.tmp 22) 1, type := 0, pos := "l13_core.go:398", after := #[{ on := 19, ground := Ground.data }, { on := 8, ground := Ground.guard }], guard := some (8, true) }) (v := _) rfl (by kernel_rfl) (by kernel_rfl) (by kernel_rfl) (fun _ _ _ h => h) (Or.inl ⟨by rfl, ?hy20a⟩) (by assumption) ?rest20a
      case hy20a => (intro w hSw; (try dsimp only at hSw); go_simp; (try with_reducible rfl))
      try simp only [Act.put, List.setIfInBounds_toArray, List.set_cons_zero, List.set_cons_succ]
      refine' wpAnyH_take (i := 21) (oi := { dst := some 24, op := Op.load 9 (Operand.tmp 23), type := 9, pos := "l13_core.go:398", after := #[{ on := 20, ground := Ground.data }, { on := 8, ground := Ground.guard }], guard := some (8, true) }) (v := _) rfl (by kernel_rfl) (by kernel_rfl) (by kernel_rfl) (fun _ _ _ h => h) (Or.inl ⟨by rfl, ?hy21a⟩) (by assumption) ?rest21a
      case hy21a => (intro w hSw; (try dsimp only at hSw); go_simp; (try with_reducible rfl))
      try simp only [Act.put, List.setIfInBounds_toArray, List.set_cons_zero, List.set_cons_succ]
      refine wpAnyH_ready (rs := [22]) (by kernel_rfl) (by simp) ?_
      refine AllReadyH.cons (o := { dst := some 25, op := Op.call { callee := Callee.value (Operand.func 104), args := #[Operand.tmp 24], argTypes := #[9] }, type := 2, pos := "l13_core.go:398", after := #[{ on := 21, ground := Ground.data }, { on := 8, ground := Ground.chain }, { on := 8, ground := Ground.guard }], guard := some (8, true) }) rfl (fun K hK => ?_) AllReadyH.nil
      go_simp
      refine (HP.out _).mono ?_
      rintro e w1 ⟨rfl, rfl⟩
      refine hK.out _ _ kk0 (fun hHeld => ?_)
      clear hK K
      try simp only [Act.put, List.setIfInBounds_toArray, List.set_cons_zero, List.set_cons_succ]
      refine' wpAnyH_take (i := 23) (oi := { dst := some 26, op := Op.binOp BinOp.eql 2 (Operand.tmp 18) (Operand.tmp 25) 2, type := 4, pos := "l13_core.go:398", after := #[{ on := 15, ground := Ground.data }, { on := 22, ground := Ground.data }, { on := 8, ground := Ground.guard }], guard := some (8, true) }) (v := _) rfl (by kernel_rfl) (by kernel_rfl) (by kernel_rfl) (fun _ _ _ h => h) (Or.inl ⟨by rfl, ?hy23a⟩) (by assumption) ?rest23a
      case hy23a => (intro w hSw; (try dsimp only at hSw); go_simp; (try with_reducible rfl))
      try simp only [Act.put, List.setIfInBounds_toArray, List.set_cons_zero, List.set_cons_succ]
      refine' wpAnyH_take (i := 24) (oi := { dst := some 27, op := Op.pick (Operand.tmp 11) (Operand.tmp 26) (Operand.const (Value.bool false)), type := 4, pos := "l13_core.go:398", after := #[{ on := 8, ground := Ground.data }, { on := 23, ground := Ground.data }], guard := none }) (v := _) rfl (by kernel_rfl) (by kernel_rfl) (by kernel_rfl) (fun _ _ _ h => h) (Or.inl ⟨by rfl, ?hy24a⟩) (by assumption) ?rest24a
      case hy24a => (intro w hSw; (try dsimp only at hSw); go_simp; (try with_reducible rfl))
      try simp only [Act.put, List.setIfInBounds_toArray, List.set_cons_zero, List.set_cons_succ]
      refine' wpAnyH_take (i := 25) (oi := { dst := some 28, op := Op.move (Operand.tmp 27), type := 4, pos := "l13_core.go:398", after := #[{ on := 24, ground := Ground.data }, { on := 22, ground := Ground.chain }], guard := none }) (v := _) rfl (by kernel_rfl) (by kernel_rfl) (by kernel_rfl) (fun _ _ _ h => h) (Or.inl ⟨by rfl, ?hy25a⟩) (by assumption) ?rest25a
      case hy25a => (intro w hSw; (try dsimp only at hSw); go_simp; (try with_reducible rfl))
      try simp only [Act.put, List.setIfInBounds_toArray, List.set_cons_zero, List.set_cons_succ]
      refine' wpAnyH_take (i := 26) (oi := { dst := some 29, op := Op.fieldAddr 123 (Operand.tmp 1) 0, type := 0, pos := "l13_core.go:398", after := #[{ on := 25, ground := Ground.guard }], guard := some (25, true) }) (v := _) rfl (by kernel_rfl) (by kernel_rfl) (by kernel_rfl) (fun _ _ _ h => h) (Or.inl ⟨by rfl, ?hy26a⟩) (by assumption) ?rest26a
      case hy26a => (intro w hSw; (try dsimp only at hSw); go_simp; (try with_reducible rfl))
      try simp only [Act.put, List.setIfInBounds_toArray, List.set_cons_zero, List.set_cons_succ]
      refine' wpAnyH_take (i := 27) (oi := { dst := some 30, op := Op.load 113 (Operand.tmp 29), type := 113, pos := "l13_core.go:398", after := #[{ on := 26, ground := Ground.data }, { on := 25, ground := Ground.guard }], guard := some (25, true) }) (v := _) rfl (by kernel_rfl) (by kernel_rfl) (by kernel_rfl) (fun _ _ _ h => h) (Or.inl ⟨by rfl, ?hy27a⟩) (by assumption) ?rest27a
      case hy27a => (intro w hSw; (try dsimp only at hSw); go_simp; (try with_reducible rfl))
      try simp only [Act.put, List.setIfInBounds_toArray, List.set_cons_zero, List.set_cons_succ]
      refine wpAnyH_ready (rs := [28]) (by kernel_rfl) (by simp) ?_
      refine AllReadyH.cons (o := { dst := some 31, op := Op.call { callee := Callee.value (Operand.func 86), args := #[Operand.tmp 30, Operand.const (Value.int IntKind.i64 9)], argTypes := #[113, 3] }, type := 4, pos := "l13_core.go:398", after := #[{ on := 27, ground := Ground.data }, { on := 25, ground := Ground.chain }, { on := 25, ground := Ground.guard }], guard := some (25, true) }) rfl (fun K hK => ?_) AllReadyH.nil
      go_simp
      refine (HO.out _ (Below.refl _ _).drew).mono ?_
      rintro e w2 ⟨rfl, b2⟩
      have hb2 := (Below.refl _ _).drew.trans (b2.mono (Nat.le_refl _))
      have kk2 := HS.out w2 hb2
      refine hK.out _ _ kk2 (fun hHeld => ?_)
      clear hK K
      try simp only [Act.put, List.setIfInBounds_toArray, List.set_cons_zero, List.set_cons_succ]
      refine' wpAnyH_take (i := 29) (oi := { dst := some 32, op := Op.pick (Operand.tmp 28) (Operand.tmp 31) (Operand.const (Value.bool false)), type := 4, pos := "l13_core.go:398", after := #[{ on := 25, ground := Ground.data }, { on := 28, ground := Ground.data }], guard := none }) (v := _) rfl (by kernel_rfl) (by kernel_rfl) (by kernel_rfl) (fun _ _ _ h => h) (Or.inl ⟨by rfl, ?hy29a⟩) (by assumption) ?rest29a
      case hy29a => (intro w hSw; (try dsimp only at hSw); go_simp; (try with_reducible rfl))
      try simp only [Act.put, List.setIfInBounds_toArray, List.set_cons_zero, List.set_cons_succ]
      refine' wpAnyH_take (i := 30) (oi := { dst := some 2, op := Op.assign (Operand.tmp 32), type := 4, pos := "l13_core.go:398", after := #[{ on := 29, ground := Ground.data }, { on := 28, ground := Ground.chain }, { on := 0, ground := Ground.phase }, { on := 1, ground := Ground.phase }, { on := 2, ground := Ground.phase }, { on := 3, ground := Ground.phase }, { on := 4, ground := Ground.phase }, { on := 5, ground := Ground.phase }, { on := 6, ground := Ground.phase }, { on := 7, ground := Ground.phase }, { on := 8, ground := Ground.phase }, { on := 9, ground := Ground.phase }, { on := 10, ground := Ground.phase }, { on := 11, ground := Ground.phase }, { on := 12, ground := Ground.phase }, { on := 13, ground := Ground.phase }, { on := 14, ground := Ground.phase }, { on := 15, ground := Ground.phase }, { on := 16, ground := Ground.phase }, { on := 17, ground := Ground.phase }, { on := 18, ground := Ground.phase }, { on := 19, ground := Ground.phase }, { on := 20, ground := Ground.phase }, { on := 21, ground := Ground.phase }, { on := 22, ground := Ground.phase }, { on := 23, ground := Ground.phase }, { on := 24, ground := Ground.phase }, { on := 25, ground := Ground.phase }, { on := 26, ground := Ground.phase }, { on := 27, ground := Ground.phase }, { on := 28, ground := Ground.phase }, { on := 29, ground := Ground.phase }], guard := none }) (v := _) rfl (by kernel_rfl) (by kernel_rfl) (by kernel_rfl) (fun _ _ _ h => h) (Or.inl ⟨by rfl, ?hy30a⟩) (by assumption) ?rest30a
      case hy30a => (intro w hSw; (try dsimp only at hSw); go_simp; (try with_reducible rfl))
      try simp only [Act.put, List.setIfInBounds_toArray, List.set_cons_zero, List.set_cons_succ]
      refine wpAnyH_done (by kernel_rfl) ?_ _
      go_wp2_with fail
      go_ret
      exact ⟨by rw [HF.out]; rfl, HB.out.trans (hb2.mono HB.out.size)⟩
    · have HF : Hid (q = false) := by unfold Hid; rw [HQ.out, decide_eq_true g0, decide_eq_false g1]; rfl
      have g2 : ((kn : Int) == p) = false := by rw [beq_eq_false_iff_ne]; exact g1
      clear HQ
      clear hq hr el es en hn3 hn4 hc hc0 hB hl hn hal hnz hb hb0 hnm hqa hp c1 c2 c3 c4 c5 c6
      go_enter Try.func103, Try.ntmps103
      go_upto_region 1 with fail
      refine wp_region_held_drew (S := fun V => V.cell? ⟨W.heap.size, 0, none⟩ = some (.pointer (some ⟨d.b, d.o, none⟩)) ∧ V.cell? ⟨d.b, d.o + 1, none⟩ = some (.string nm) ∧ V.cell? ⟨d.b, d.o + 5, none⟩ = some (.slice ka kn kc)) (by kernel_rfl) kk0 (fun hHeld => ?_)
      refine' wpAnyH_take (i := 0) (oi := { dst := some 3, op := Op.fieldAddr 123 (Operand.tmp 1) 0, type := 0, pos := "l13_core.go:398", after := #[], guard := none }) (v := _) rfl (by kernel_rfl) (by kernel_rfl) (by kernel_rfl) (fun _ _ _ h => h) (Or.inl ⟨by rfl, ?hy0b⟩) (by assumption) ?rest0b
      case hy0b => (intro w hSw; (try dsimp only at hSw); go_simp; (try with_reducible rfl))
      try simp only [Act.put, List.setIfInBounds_toArray, List.set_cons_zero, List.set_cons_succ]
      refine' wpAnyH_take (i := 1) (oi := { dst := some 4, op := Op.fieldAddr 113 (Operand.tmp 3) 0, type := 0, pos := "l13_core.go:398", after := #[{ on := 0, ground := Ground.data }], guard := none }) (v := _) rfl (by kernel_rfl) (by kernel_rfl) (by kernel_rfl) (fun _ _ _ h => h) (Or.inl ⟨by rfl, ?hy1b⟩) (by assumption) ?rest1b
      case hy1b => (intro w hSw; (try dsimp only at hSw); go_simp; (try with_reducible rfl))
      try simp only [Act.put, List.setIfInBounds_toArray, List.set_cons_zero, List.set_cons_succ]
      refine' wpAnyH_take (i := 2) (oi := { dst := some 5, op := Op.load 58 (Operand.tmp 4), type := 58, pos := "l13_core.go:398", after := #[{ on := 1, ground := Ground.data }], guard := none }) (v := _) rfl (by kernel_rfl) (by kernel_rfl) (by kernel_rfl) (fun _ _ _ h => h) (Or.inl ⟨by rfl, ?hy2b⟩) (by assumption) ?rest2b
      case hy2b => (intro w hSw; (try dsimp only at hSw); go_simp; (try with_reducible rfl))
      try simp only [Act.put, List.setIfInBounds_toArray, List.set_cons_zero, List.set_cons_succ]
      refine' wpAnyH_take (i := 3) (oi := { dst := some 6, op := Op.nilCheck (Operand.tmp 5), type := 0, pos := "l13_core.go:398", after := #[{ on := 2, ground := Ground.data }], guard := none }) (v := _) rfl (by kernel_rfl) (by kernel_rfl) (by kernel_rfl) (fun _ _ _ h => h) (Or.inl ⟨by rfl, ?hy3b⟩) (by assumption) ?rest3b
      case hy3b => (intro w hSw; (try dsimp only at hSw); go_simp; (try with_reducible rfl))
      try simp only [Act.put, List.setIfInBounds_toArray, List.set_cons_zero, List.set_cons_succ]
      refine' wpAnyH_take (i := 4) (oi := { dst := some 7, op := Op.fieldAddr 36 (Operand.tmp 6) 4, type := 0, pos := "l13_core.go:398", after := #[{ on := 3, ground := Ground.data }], guard := none }) (v := _) rfl (by kernel_rfl) (by kernel_rfl) (by kernel_rfl) (fun _ _ _ h => h) (Or.inl ⟨by rfl, ?hy4b⟩) (by assumption) ?rest4b
      case hy4b => (intro w hSw; (try dsimp only at hSw); go_simp; (try with_reducible rfl))
      try simp only [Act.put, List.setIfInBounds_toArray, List.set_cons_zero, List.set_cons_succ]
      refine' wpAnyH_take (i := 5) (oi := { dst := some 8, op := Op.load 33 (Operand.tmp 7), type := 33, pos := "l13_core.go:398", after := #[{ on := 4, ground := Ground.data }], guard := none }) (v := _) rfl (by kernel_rfl) (by kernel_rfl) (by kernel_rfl) (fun _ _ _ h => h) (Or.inl ⟨by rfl, ?hy5b⟩) (by assumption) ?rest5b
      case hy5b => (intro w hSw; (try dsimp only at hSw); go_simp; (try with_reducible rfl))
      try simp only [Act.put, List.setIfInBounds_toArray, List.set_cons_zero, List.set_cons_succ]
      refine' wpAnyH_take (i := 6) (oi := { dst := some 9, op := Op.call { callee := Callee.builtin Builtin.len, args := #[Operand.tmp 8], argTypes := #[33] }, type := 3, pos := "l13_core.go:398", after := #[{ on := 5, ground := Ground.data }], guard := none }) (v := _) rfl (by kernel_rfl) (by kernel_rfl) (by kernel_rfl) (fun _ _ _ h => h) (Or.inl ⟨by rfl, ?hy6b⟩) (by assumption) ?rest6b
      case hy6b => (intro w hSw; (try dsimp only at hSw); go_simp; (try with_reducible rfl))
      try simp only [Act.put, List.setIfInBounds_toArray, List.set_cons_zero, List.set_cons_succ]
      refine' wpAnyH_take (i := 7) (oi := { dst := some 10, op := Op.binOp BinOp.gtr 3 (Operand.tmp 9) (Operand.const (Value.int IntKind.i64 0)) 3, type := 4, pos := "l13_core.go:398", after := #[{ on := 6, ground := Ground.data }], guard := none }) (v := _) rfl (by kernel_rfl) (by kernel_rfl) (by kernel_rfl) (fun _ _ _ h => h) (Or.inl ⟨by rfl, ?hy7b⟩) (by assumption) ?rest7b
      case hy7b => (intro w hSw; (try dsimp only at hSw); go_simp; (try with_reducible rfl))
      try simp only [Act.put, List.setIfInBounds_toArray, List.set_cons_zero, List.set_cons_succ]
      refine' wpAnyH_take (i := 8) (oi := { dst := some 11, op := Op.move (Operand.tmp 10), type := 4, pos := "l13_core.go:398", after := #[{ on := 7, ground := Ground.data }], guard := none }) (v := _) rfl (by kernel_rfl) (by kernel_rfl) (by kernel_rfl) (fun _ _ _ h => h) (Or.inl ⟨by rfl, ?hy8b⟩) (by assumption) ?rest8b
      case hy8b => (intro w hSw; (try dsimp only at hSw); go_simp; (try with_reducible rfl))
      try simp only [Act.put, List.setIfInBounds_toArray, List.set_cons_zero, List.set_cons_succ]
      refine' wpAnyH_take (i := 9) (oi := { dst := some 12, op := Op.fieldAddr 123 (Operand.tmp 1) 0, type := 0, pos := "l13_core.go:398", after := #[{ on := 8, ground := Ground.guard }], guard := some (8, true) }) (v := _) rfl (by kernel_rfl) (by kernel_rfl) (by kernel_rfl) (fun _ _ _ h => h) (Or.inl ⟨by rfl, ?hy9b⟩) (by assumption) ?rest9b
      case hy9b => (intro w hSw; (try dsimp only at hSw); go_simp; (try with_reducible rfl))
      try simp only [Act.put, List.setIfInBounds_toArray, List.set_cons_zero, List.set_cons_succ]
      refine' wpAnyH_take (i := 10) (oi := { dst := some 13, op := Op.fieldAddr 113 (Operand.tmp 12) 0, type := 0, pos := "l13_core.go:398", after := #[{ on := 9, ground := Ground.data }, { on := 8, ground := Ground.guard }], guard := some (8, true) }) (v := _) rfl (by kernel_rfl) (by kernel_rfl) (by kernel_rfl) (fun _ _ _ h => h) (Or.inl ⟨by rfl, ?hy10b⟩) (by assumption) ?rest10b
      case hy10b => (intro w hSw; (try dsimp only at hSw); go_simp; (try with_reducible rfl))
      try simp only [Act.put, List.setIfInBounds_toArray, List.set_cons_zero, List.set_cons_succ]
      refine' wpAnyH_take (i := 11) (oi := { dst := some 14, op := Op.load 58 (Operand.tmp 13), type := 58, pos := "l13_core.go:398", after := #[{ on := 10, ground := Ground.data }, { on := 8, ground := Ground.guard }], guard := some (8, true) }) (v := _) rfl (by kernel_rfl) (by kernel_rfl) (by kernel_rfl) (fun _ _ _ h => h) (Or.inl ⟨by rfl, ?hy11b⟩) (by assumption) ?rest11b
      case hy11b => (intro w hSw; (try dsimp only at hSw); go_simp; (try with_reducible rfl))
      try simp only [Act.put, List.setIfInBounds_toArray, List.set_cons_zero, List.set_cons_succ]
      refine' wpAnyH_take (i := 12) (oi := { dst := some 15, op := Op.nilCheck (Operand.tmp 14), type := 0, pos := "l13_core.go:398", after := #[{ on := 11, ground := Ground.data }, { on := 8, ground := Ground.guard }], guard := some (8, true) }) (v := _) rfl (by kernel_rfl) (by kernel_rfl) (by kernel_rfl) (fun _ _ _ h => h) (Or.inl ⟨by rfl, ?hy12b⟩) (by assumption) ?rest12b
      case hy12b => (intro w hSw; (try dsimp only at hSw); go_simp; (try with_reducible rfl))
      try simp only [Act.put, List.setIfInBounds_toArray, List.set_cons_zero, List.set_cons_succ]
      refine' wpAnyH_take (i := 13) (oi := { dst := some 16, op := Op.fieldAddr 36 (Operand.tmp 15) 4, type := 0, pos := "l13_core.go:398", after := #[{ on := 12, ground := Ground.data }, { on := 8, ground := Ground.guard }], guard := some (8, true) }) (v := _) rfl (by kernel_rfl) (by kernel_rfl) (by kernel_rfl) (fun _ _ _ h => h) (Or.inl ⟨by rfl, ?hy13b⟩) (by assumption) ?rest13b
      case hy13b => (intro w hSw; (try dsimp only at hSw); go_simp; (try with_reducible rfl))
      try simp only [Act.put, List.setIfInBounds_toArray, List.set_cons_zero, List.set_cons_succ]
      refine' wpAnyH_take (i := 14) (oi := { dst := some 17, op := Op.load 33 (Operand.tmp 16), type := 33, pos := "l13_core.go:398", after := #[{ on := 13, ground := Ground.data }, { on := 8, ground := Ground.guard }], guard := some (8, true) }) (v := _) rfl (by kernel_rfl) (by kernel_rfl) (by kernel_rfl) (fun _ _ _ h => h) (Or.inl ⟨by rfl, ?hy14b⟩) (by assumption) ?rest14b
      case hy14b => (intro w hSw; (try dsimp only at hSw); go_simp; (try with_reducible rfl))
      try simp only [Act.put, List.setIfInBounds_toArray, List.set_cons_zero, List.set_cons_succ]
      refine' wpAnyH_take (i := 15) (oi := { dst := some 18, op := Op.call { callee := Callee.builtin Builtin.len, args := #[Operand.tmp 17], argTypes := #[33] }, type := 3, pos := "l13_core.go:398", after := #[{ on := 14, ground := Ground.data }, { on := 8, ground := Ground.guard }], guard := some (8, true) }) (v := _) rfl (by kernel_rfl) (by kernel_rfl) (by kernel_rfl) (fun _ _ _ h => h) (Or.inl ⟨by rfl, ?hy15b⟩) (by assumption) ?rest15b
      case hy15b => (intro w hSw; (try dsimp only at hSw); go_simp; (try with_reducible rfl))
      try simp only [Act.put, List.setIfInBounds_toArray, List.set_cons_zero, List.set_cons_succ]
      refine' wpAnyH_take (i := 16) (oi := { dst := some 19, op := Op.fieldAddr 123 (Operand.tmp 1) 0, type := 0, pos := "l13_core.go:398", after := #[{ on := 8, ground := Ground.guard }], guard := some (8, true) }) (v := _) rfl (by kernel_rfl) (by kernel_rfl) (by kernel_rfl) (fun _ _ _ h => h) (Or.inl ⟨by rfl, ?hy16b⟩) (by assumption) ?rest16b
      case hy16b => (intro w hSw; (try dsimp only at hSw); go_simp; (try with_reducible rfl))
      try simp only [Act.put, List.setIfInBounds_toArray, List.set_cons_zero, List.set_cons_succ]
      refine' wpAnyH_take (i := 17) (oi := { dst := some 20, op := Op.fieldAddr 113 (Operand.tmp 19) 0, type := 0, pos := "l13_core.go:398", after := #[{ on := 16, ground := Ground.data }, { on := 8, ground := Ground.guard }], guard := some (8, true) }) (v := _) rfl (by kernel_rfl) (by kernel_rfl) (by kernel_rfl) (fun _ _ _ h => h) (Or.inl ⟨by rfl, ?hy17b⟩) (by assumption) ?rest17b
      case hy17b => (intro w hSw; (try dsimp only at hSw); go_simp; (try with_reducible rfl))
      try simp only [Act.put, List.setIfInBounds_toArray, List.set_cons_zero, List.set_cons_succ]
      refine' wpAnyH_take (i := 18) (oi := { dst := some 21, op := Op.load 58 (Operand.tmp 20), type := 58, pos := "l13_core.go:398", after := #[{ on := 17, ground := Ground.data }, { on := 8, ground := Ground.guard }], guard := some (8, true) }) (v := _) rfl (by kernel_rfl) (by kernel_rfl) (by kernel_rfl) (fun _ _ _ h => h) (Or.inl ⟨by rfl, ?hy18b⟩) (by assumption) ?rest18b
      case hy18b => (intro w hSw; (try dsimp only at hSw); go_simp; (try with_reducible rfl))
      try simp only [Act.put, List.setIfInBounds_toArray, List.set_cons_zero, List.set_cons_succ]
      refine' wpAnyH_take (i := 19) (oi := { dst := some 22, op := Op.nilCheck (Operand.tmp 21), type := 0, pos := "l13_core.go:398", after := #[{ on := 18, ground := Ground.data }, { on := 8, ground := Ground.guard }], guard := some (8, true) }) (v := _) rfl (by kernel_rfl) (by kernel_rfl) (by kernel_rfl) (fun _ _ _ h => h) (Or.inl ⟨by rfl, ?hy19b⟩) (by assumption) ?rest19b
      case hy19b => (intro w hSw; (try dsimp only at hSw); go_simp; (try with_reducible rfl))
      try simp only [Act.put, List.setIfInBounds_toArray, List.set_cons_zero, List.set_cons_succ]
      refine' wpAnyH_take (i := 20) (oi := { dst := some 23, op := Op.fieldAddr 36 (Operand.tmp 22) 1, type := 0, pos := "l13_core.go:398", after := #[{ on := 19, ground := Ground.data }, { on := 8, ground := Ground.guard }], guard := some (8, true) }) (v := _) rfl (by kernel_rfl) (by kernel_rfl) (by kernel_rfl) (fun _ _ _ h => h) (Or.inl ⟨by rfl, ?hy20b⟩) (by assumption) ?rest20b
      case hy20b => (intro w hSw; (try dsimp only at hSw); go_simp; (try with_reducible rfl))
      try simp only [Act.put, List.setIfInBounds_toArray, List.set_cons_zero, List.set_cons_succ]
      refine' wpAnyH_take (i := 21) (oi := { dst := some 24, op := Op.load 9 (Operand.tmp 23), type := 9, pos := "l13_core.go:398", after := #[{ on := 20, ground := Ground.data }, { on := 8, ground := Ground.guard }], guard := some (8, true) }) (v := _) rfl (by kernel_rfl) (by kernel_rfl) (by kernel_rfl) (fun _ _ _ h => h) (Or.inl ⟨by rfl, ?hy21b⟩) (by assumption) ?rest21b
      case hy21b => (intro w hSw; (try dsimp only at hSw); go_simp; (try with_reducible rfl))
      try simp only [Act.put, List.setIfInBounds_toArray, List.set_cons_zero, List.set_cons_succ]
      refine wpAnyH_ready (rs := [22]) (by kernel_rfl) (by simp) ?_
      refine AllReadyH.cons (o := { dst := some 25, op := Op.call { callee := Callee.value (Operand.func 104), args := #[Operand.tmp 24], argTypes := #[9] }, type := 2, pos := "l13_core.go:398", after := #[{ on := 21, ground := Ground.data }, { on := 8, ground := Ground.chain }, { on := 8, ground := Ground.guard }], guard := some (8, true) }) rfl (fun K hK => ?_) AllReadyH.nil
      go_simp
      refine (HP.out _).mono ?_
      rintro e w1 ⟨rfl, rfl⟩
      refine hK.out _ _ kk0 (fun hHeld => ?_)
      clear hK K
      try simp only [Act.put, List.setIfInBounds_toArray, List.set_cons_zero, List.set_cons_succ]
      refine' wpAnyH_take (i := 23) (oi := { dst := some 26, op := Op.binOp BinOp.eql 2 (Operand.tmp 18) (Operand.tmp 25) 2, type := 4, pos := "l13_core.go:398", after := #[{ on := 15, ground := Ground.data }, { on := 22, ground := Ground.data }, { on := 8, ground := Ground.guard }], guard := some (8, true) }) (v := _) rfl (by kernel_rfl) (by kernel_rfl) (by kernel_rfl) (fun _ _ _ h => h) (Or.inl ⟨by rfl, ?hy23b⟩) (by assumption) ?rest23b
      case hy23b => (intro w hSw; (try dsimp only at hSw); go_simp; (try with_reducible rfl))
      try simp only [Act.put, List.setIfInBounds_toArray, List.set_cons_zero, List.set_cons_succ]
      refine' wpAnyH_take (i := 24) (oi := { dst := some 27, op := Op.pick (Operand.tmp 11) (Operand.tmp 26) (Operand.const (Value.bool false)), type := 4, pos := "l13_core.go:398", after := #[{ on := 8, ground := Ground.data }, { on := 23, ground := Ground.data }], guard := none }) (v := _) rfl (by kernel_rfl) (by kernel_rfl) (by kernel_rfl) (fun _ _ _ h => h) (Or.inl ⟨by rfl, ?hy24b⟩) (by assumption) ?rest24b
      case hy24b => (intro w hSw; (try dsimp only at hSw); go_simp; (try with_reducible rfl))
      try simp only [Act.put, List.setIfInBounds_toArray, List.set_cons_zero, List.set_cons_succ]
      refine' wpAnyH_take (i := 25) (oi := { dst := some 28, op := Op.move (Operand.tmp 27), type := 4, pos := "l13_core.go:398", after := #[{ on := 24, ground := Ground.data }, { on := 22, ground := Ground.chain }], guard := none }) (v := _) rfl (by kernel_rfl) (by kernel_rfl) (by kernel_rfl) (fun _ _ _ h => h) (Or.inl ⟨by rfl, ?hy25b⟩) (by assumption) ?rest25b
      case hy25b => (intro w hSw; (try dsimp only at hSw); go_simp; (try with_reducible rfl))
      try simp only [Act.put, List.setIfInBounds_toArray, List.set_cons_zero, List.set_cons_succ]
      refine' wpAnyH_take (i := 26) (oi := { dst := some 29, op := Op.fieldAddr 123 (Operand.tmp 1) 0, type := 0, pos := "l13_core.go:398", after := #[{ on := 25, ground := Ground.guard }], guard := some (25, true) }) (v := _) rfl (by kernel_rfl) (by kernel_rfl) (by kernel_rfl) (fun _ _ _ h => h) (Or.inr ⟨by rfl, by rfl⟩) (by assumption) ?rest26b
      try simp only [Act.put, List.setIfInBounds_toArray, List.set_cons_zero, List.set_cons_succ]
      refine' wpAnyH_take (i := 27) (oi := { dst := some 30, op := Op.load 113 (Operand.tmp 29), type := 113, pos := "l13_core.go:398", after := #[{ on := 26, ground := Ground.data }, { on := 25, ground := Ground.guard }], guard := some (25, true) }) (v := _) rfl (by kernel_rfl) (by kernel_rfl) (by kernel_rfl) (fun _ _ _ h => h) (Or.inr ⟨by rfl, by rfl⟩) (by assumption) ?rest27b
      try simp only [Act.put, List.setIfInBounds_toArray, List.set_cons_zero, List.set_cons_succ]
      refine' wpAnyH_take (i := 28) (oi := { dst := some 31, op := Op.call { callee := Callee.value (Operand.func 86), args := #[Operand.tmp 30, Operand.const (Value.int IntKind.i64 9)], argTypes := #[113, 3] }, type := 4, pos := "l13_core.go:398", after := #[{ on := 27, ground := Ground.data }, { on := 25, ground := Ground.chain }, { on := 25, ground := Ground.guard }], guard := some (25, true) }) (v := _) rfl (by kernel_rfl) (by kernel_rfl) (by kernel_rfl) (fun _ _ _ h => h) (Or.inr ⟨by rfl, by rfl⟩) (by assumption) ?rest28b
      try simp only [Act.put, List.setIfInBounds_toArray, List.set_cons_zero, List.set_cons_succ]
      refine' wpAnyH_take (i := 29) (oi := { dst := some 32, op := Op.pick (Operand.tmp 28) (Operand.tmp 31) (Operand.const (Value.bool false)), type := 4, pos := "l13_core.go:398", after := #[{ on := 25, ground := Ground.data }, { on := 28, ground := Ground.data }], guard := none }) (v := _) rfl (by kernel_rfl) (by kernel_rfl) (by kernel_rfl) (fun _ _ _ h => h) (Or.inl ⟨by rfl, ?hy29b⟩) (by assumption) ?rest29b
      case hy29b => (intro w hSw; (try dsimp only at hSw); go_simp; (try with_reducible rfl))
      try simp only [Act.put, List.setIfInBounds_toArray, List.set_cons_zero, List.set_cons_succ]
      refine' wpAnyH_take (i := 30) (oi := { dst := some 2, op := Op.assign (Operand.tmp 32), type := 4, pos := "l13_core.go:398", after := #[{ on := 29, ground := Ground.data }, { on := 28, ground := Ground.chain }, { on := 0, ground := Ground.phase }, { on := 1, ground := Ground.phase }, { on := 2, ground := Ground.phase }, { on := 3, ground := Ground.phase }, { on := 4, ground := Ground.phase }, { on := 5, ground := Ground.phase }, { on := 6, ground := Ground.phase }, { on := 7, ground := Ground.phase }, { on := 8, ground := Ground.phase }, { on := 9, ground := Ground.phase }, { on := 10, ground := Ground.phase }, { on := 11, ground := Ground.phase }, { on := 12, ground := Ground.phase }, { on := 13, ground := Ground.phase }, { on := 14, ground := Ground.phase }, { on := 15, ground := Ground.phase }, { on := 16, ground := Ground.phase }, { on := 17, ground := Ground.phase }, { on := 18, ground := Ground.phase }, { on := 19, ground := Ground.phase }, { on := 20, ground := Ground.phase }, { on := 21, ground := Ground.phase }, { on := 22, ground := Ground.phase }, { on := 23, ground := Ground.phase }, { on := 24, ground := Ground.phase }, { on := 25, ground := Ground.phase }, { on := 26, ground := Ground.phase }, { on := 27, ground := Ground.phase }, { on := 28, ground := Ground.phase }, { on := 29, ground := Ground.phase }], guard := none }) (v := _) rfl (by kernel_rfl) (by kernel_rfl) (by kernel_rfl) (fun _ _ _ h => h) (Or.inl ⟨by rfl, ?hy30b⟩) (by assumption) ?rest30b
      case hy30b => (intro w hSw; (try dsimp only at hSw); go_simp; (try with_reducible rfl))
      try simp only [Act.put, List.setIfInBounds_toArray, List.set_cons_zero, List.set_cons_succ]
      refine wpAnyH_done (by kernel_rfl) ?_ _
      go_wp2_with fail
      go_ret
      exact ⟨by rw [HF.out]; rfl, HB.out.trans ((Below.refl _ _).drew.mono HB.out.size)⟩
  · have HF : Hid (q = false) := by unfold Hid; rw [HQ.out, decide_eq_false g0]; rfl
    have g0n : ¬ 0 < kn := by omega
    clear HQ
    clear hq hr el es en hn3 hn4 hc hc0 hB hl hn hal hnz hb hb0 hnm hqa hp c1 c2 c3 c4 c5 c6
    go_enter Try.func103, Try.ntmps103
    go_upto_region 1 with fail
    refine wp_region_held_drew (S := fun V => V.cell? ⟨W.heap.size, 0, none⟩ = some (.pointer (some ⟨d.b, d.o, none⟩)) ∧ V.cell? ⟨d.b, d.o + 1, none⟩ = some (.string nm) ∧ V.cell? ⟨d.b, d.o + 5, none⟩ = some (.slice ka kn kc)) (by kernel_rfl) kk0 (fun hHeld => ?_)
    refine' wpAnyH_take (i := 0) (oi := { dst := some 3, op := Op.fieldAddr 123 (Operand.tmp 1) 0, type := 0, pos := "l13_core.go:398", after := #[], guard := none }) (v := _) rfl (by kernel_rfl) (by kernel_rfl) (by kernel_rfl) (fun _ _ _ h => h) (Or.inl ⟨by rfl, ?hy0c⟩) (by assumption) ?rest0c
    case hy0c => (intro w hSw; (try dsimp only at hSw); go_simp; (try with_reducible rfl))
    try simp only [Act.put, List.setIfInBounds_toArray, List.set_cons_zero, List.set_cons_succ]
    refine' wpAnyH_take (i := 1) (oi := { dst := some 4, op := Op.fieldAddr 113 (Operand.tmp 3) 0, type := 0, pos := "l13_core.go:398", after := #[{ on := 0, ground := Ground.data }], guard := none }) (v := _) rfl (by kernel_rfl) (by kernel_rfl) (by kernel_rfl) (fun _ _ _ h => h) (Or.inl ⟨by rfl, ?hy1c⟩) (by assumption) ?rest1c
    case hy1c => (intro w hSw; (try dsimp only at hSw); go_simp; (try with_reducible rfl))
    try simp only [Act.put, List.setIfInBounds_toArray, List.set_cons_zero, List.set_cons_succ]
    refine' wpAnyH_take (i := 2) (oi := { dst := some 5, op := Op.load 58 (Operand.tmp 4), type := 58, pos := "l13_core.go:398", after := #[{ on := 1, ground := Ground.data }], guard := none }) (v := _) rfl (by kernel_rfl) (by kernel_rfl) (by kernel_rfl) (fun _ _ _ h => h) (Or.inl ⟨by rfl, ?hy2c⟩) (by assumption) ?rest2c
    case hy2c => (intro w hSw; (try dsimp only at hSw); go_simp; (try with_reducible rfl))
    try simp only [Act.put, List.setIfInBounds_toArray, List.set_cons_zero, List.set_cons_succ]
    refine' wpAnyH_take (i := 3) (oi := { dst := some 6, op := Op.nilCheck (Operand.tmp 5), type := 0, pos := "l13_core.go:398", after := #[{ on := 2, ground := Ground.data }], guard := none }) (v := _) rfl (by kernel_rfl) (by kernel_rfl) (by kernel_rfl) (fun _ _ _ h => h) (Or.inl ⟨by rfl, ?hy3c⟩) (by assumption) ?rest3c
    case hy3c => (intro w hSw; (try dsimp only at hSw); go_simp; (try with_reducible rfl))
    try simp only [Act.put, List.setIfInBounds_toArray, List.set_cons_zero, List.set_cons_succ]
    refine' wpAnyH_take (i := 4) (oi := { dst := some 7, op := Op.fieldAddr 36 (Operand.tmp 6) 4, type := 0, pos := "l13_core.go:398", after := #[{ on := 3, ground := Ground.data }], guard := none }) (v := _) rfl (by kernel_rfl) (by kernel_rfl) (by kernel_rfl) (fun _ _ _ h => h) (Or.inl ⟨by rfl, ?hy4c⟩) (by assumption) ?rest4c
    case hy4c => (intro w hSw; (try dsimp only at hSw); go_simp; (try with_reducible rfl))
    try simp only [Act.put, List.setIfInBounds_toArray, List.set_cons_zero, List.set_cons_succ]
    refine' wpAnyH_take (i := 5) (oi := { dst := some 8, op := Op.load 33 (Operand.tmp 7), type := 33, pos := "l13_core.go:398", after := #[{ on := 4, ground := Ground.data }], guard := none }) (v := _) rfl (by kernel_rfl) (by kernel_rfl) (by kernel_rfl) (fun _ _ _ h => h) (Or.inl ⟨by rfl, ?hy5c⟩) (by assumption) ?rest5c
    case hy5c => (intro w hSw; (try dsimp only at hSw); go_simp; (try with_reducible rfl))
    try simp only [Act.put, List.setIfInBounds_toArray, List.set_cons_zero, List.set_cons_succ]
    refine' wpAnyH_take (i := 6) (oi := { dst := some 9, op := Op.call { callee := Callee.builtin Builtin.len, args := #[Operand.tmp 8], argTypes := #[33] }, type := 3, pos := "l13_core.go:398", after := #[{ on := 5, ground := Ground.data }], guard := none }) (v := _) rfl (by kernel_rfl) (by kernel_rfl) (by kernel_rfl) (fun _ _ _ h => h) (Or.inl ⟨by rfl, ?hy6c⟩) (by assumption) ?rest6c
    case hy6c => (intro w hSw; (try dsimp only at hSw); go_simp; (try with_reducible rfl))
    try simp only [Act.put, List.setIfInBounds_toArray, List.set_cons_zero, List.set_cons_succ]
    refine' wpAnyH_take (i := 7) (oi := { dst := some 10, op := Op.binOp BinOp.gtr 3 (Operand.tmp 9) (Operand.const (Value.int IntKind.i64 0)) 3, type := 4, pos := "l13_core.go:398", after := #[{ on := 6, ground := Ground.data }], guard := none }) (v := _) rfl (by kernel_rfl) (by kernel_rfl) (by kernel_rfl) (fun _ _ _ h => h) (Or.inl ⟨by rfl, ?hy7c⟩) (by assumption) ?rest7c
    case hy7c => (intro w hSw; (try dsimp only at hSw); go_simp; (try with_reducible rfl))
    try simp only [Act.put, List.setIfInBounds_toArray, List.set_cons_zero, List.set_cons_succ]
    refine' wpAnyH_take (i := 8) (oi := { dst := some 11, op := Op.move (Operand.tmp 10), type := 4, pos := "l13_core.go:398", after := #[{ on := 7, ground := Ground.data }], guard := none }) (v := _) rfl (by kernel_rfl) (by kernel_rfl) (by kernel_rfl) (fun _ _ _ h => h) (Or.inl ⟨by rfl, ?hy8c⟩) (by assumption) ?rest8c
    case hy8c => (intro w hSw; (try dsimp only at hSw); go_simp; (try with_reducible rfl))
    try simp only [Act.put, List.setIfInBounds_toArray, List.set_cons_zero, List.set_cons_succ]
    refine' wpAnyH_take (i := 9) (oi := { dst := some 12, op := Op.fieldAddr 123 (Operand.tmp 1) 0, type := 0, pos := "l13_core.go:398", after := #[{ on := 8, ground := Ground.guard }], guard := some (8, true) }) (v := _) rfl (by kernel_rfl) (by kernel_rfl) (by kernel_rfl) (fun _ _ _ h => h) (Or.inr ⟨by rfl, by rfl⟩) (by assumption) ?rest9c
    try simp only [Act.put, List.setIfInBounds_toArray, List.set_cons_zero, List.set_cons_succ]
    refine' wpAnyH_take (i := 10) (oi := { dst := some 13, op := Op.fieldAddr 113 (Operand.tmp 12) 0, type := 0, pos := "l13_core.go:398", after := #[{ on := 9, ground := Ground.data }, { on := 8, ground := Ground.guard }], guard := some (8, true) }) (v := _) rfl (by kernel_rfl) (by kernel_rfl) (by kernel_rfl) (fun _ _ _ h => h) (Or.inr ⟨by rfl, by rfl⟩) (by assumption) ?rest10c
    try simp only [Act.put, List.setIfInBounds_toArray, List.set_cons_zero, List.set_cons_succ]
    refine' wpAnyH_take (i := 11) (oi := { dst := some 14, op := Op.load 58 (Operand.tmp 13), type := 58, pos := "l13_core.go:398", after := #[{ on := 10, ground := Ground.data }, { on := 8, ground := Ground.guard }], guard := some (8, true) }) (v := _) rfl (by kernel_rfl) (by kernel_rfl) (by kernel_rfl) (fun _ _ _ h => h) (Or.inr ⟨by rfl, by rfl⟩) (by assumption) ?rest11c
    try simp only [Act.put, List.setIfInBounds_toArray, List.set_cons_zero, List.set_cons_succ]
    refine' wpAnyH_take (i := 12) (oi := { dst := some 15, op := Op.nilCheck (Operand.tmp 14), type := 0, pos := "l13_core.go:398", after := #[{ on := 11, ground := Ground.data }, { on := 8, ground := Ground.guard }], guard := some (8, true) }) (v := _) rfl (by kernel_rfl) (by kernel_rfl) (by kernel_rfl) (fun _ _ _ h => h) (Or.inr ⟨by rfl, by rfl⟩) (by assumption) ?rest12c
    try simp only [Act.put, List.setIfInBounds_toArray, List.set_cons_zero, List.set_cons_succ]
    refine' wpAnyH_take (i := 13) (oi := { dst := some 16, op := Op.fieldAddr 36 (Operand.tmp 15) 4, type := 0, pos := "l13_core.go:398", after := #[{ on := 12, ground := Ground.data }, { on := 8, ground := Ground.guard }], guard := some (8, true) }) (v := _) rfl (by kernel_rfl) (by kernel_rfl) (by kernel_rfl) (fun _ _ _ h => h) (Or.inr ⟨by rfl, by rfl⟩) (by assumption) ?rest13c
    try simp only [Act.put, List.setIfInBounds_toArray, List.set_cons_zero, List.set_cons_succ]
    refine' wpAnyH_take (i := 14) (oi := { dst := some 17, op := Op.load 33 (Operand.tmp 16), type := 33, pos := "l13_core.go:398", after := #[{ on := 13, ground := Ground.data }, { on := 8, ground := Ground.guard }], guard := some (8, true) }) (v := _) rfl (by kernel_rfl) (by kernel_rfl) (by kernel_rfl) (fun _ _ _ h => h) (Or.inr ⟨by rfl, by rfl⟩) (by assumption) ?rest14c
    try simp only [Act.put, List.setIfInBounds_toArray, List.set_cons_zero, List.set_cons_succ]
    refine' wpAnyH_take (i := 15) (oi := { dst := some 18, op := Op.call { callee := Callee.builtin Builtin.len, args := #[Operand.tmp 17], argTypes := #[33] }, type := 3, pos := "l13_core.go:398", after := #[{ on := 14, ground := Ground.data }, { on := 8, ground := Ground.guard }], guard := some (8, true) }) (v := _) rfl (by kernel_rfl) (by kernel_rfl) (by kernel_rfl) (fun _ _ _ h => h) (Or.inr ⟨by rfl, by rfl⟩) (by assumption) ?rest15c
    try simp only [Act.put, List.setIfInBounds_toArray, List.set_cons_zero, List.set_cons_succ]
    refine' wpAnyH_take (i := 16) (oi := { dst := some 19, op := Op.fieldAddr 123 (Operand.tmp 1) 0, type := 0, pos := "l13_core.go:398", after := #[{ on := 8, ground := Ground.guard }], guard := some (8, true) }) (v := _) rfl (by kernel_rfl) (by kernel_rfl) (by kernel_rfl) (fun _ _ _ h => h) (Or.inr ⟨by rfl, by rfl⟩) (by assumption) ?rest16c
    try simp only [Act.put, List.setIfInBounds_toArray, List.set_cons_zero, List.set_cons_succ]
    refine' wpAnyH_take (i := 17) (oi := { dst := some 20, op := Op.fieldAddr 113 (Operand.tmp 19) 0, type := 0, pos := "l13_core.go:398", after := #[{ on := 16, ground := Ground.data }, { on := 8, ground := Ground.guard }], guard := some (8, true) }) (v := _) rfl (by kernel_rfl) (by kernel_rfl) (by kernel_rfl) (fun _ _ _ h => h) (Or.inr ⟨by rfl, by rfl⟩) (by assumption) ?rest17c
    try simp only [Act.put, List.setIfInBounds_toArray, List.set_cons_zero, List.set_cons_succ]
    refine' wpAnyH_take (i := 18) (oi := { dst := some 21, op := Op.load 58 (Operand.tmp 20), type := 58, pos := "l13_core.go:398", after := #[{ on := 17, ground := Ground.data }, { on := 8, ground := Ground.guard }], guard := some (8, true) }) (v := _) rfl (by kernel_rfl) (by kernel_rfl) (by kernel_rfl) (fun _ _ _ h => h) (Or.inr ⟨by rfl, by rfl⟩) (by assumption) ?rest18c
    try simp only [Act.put, List.setIfInBounds_toArray, List.set_cons_zero, List.set_cons_succ]
    refine' wpAnyH_take (i := 19) (oi := { dst := some 22, op := Op.nilCheck (Operand.tmp 21), type := 0, pos := "l13_core.go:398", after := #[{ on := 18, ground := Ground.data }, { on := 8, ground := Ground.guard }], guard := some (8, true) }) (v := _) rfl (by kernel_rfl) (by kernel_rfl) (by kernel_rfl) (fun _ _ _ h => h) (Or.inr ⟨by rfl, by rfl⟩) (by assumption) ?rest19c
    try simp only [Act.put, List.setIfInBounds_toArray, List.set_cons_zero, List.set_cons_succ]
    refine' wpAnyH_take (i := 20) (oi := { dst := some 23, op := Op.fieldAddr 36 (Operand.tmp 22) 1, type := 0, pos := "l13_core.go:398", after := #[{ on := 19, ground := Ground.data }, { on := 8, ground := Ground.guard }], guard := some (8, true) }) (v := _) rfl (by kernel_rfl) (by kernel_rfl) (by kernel_rfl) (fun _ _ _ h => h) (Or.inr ⟨by rfl, by rfl⟩) (by assumption) ?rest20c
    try simp only [Act.put, List.setIfInBounds_toArray, List.set_cons_zero, List.set_cons_succ]
    refine' wpAnyH_take (i := 21) (oi := { dst := some 24, op := Op.load 9 (Operand.tmp 23), type := 9, pos := "l13_core.go:398", after := #[{ on := 20, ground := Ground.data }, { on := 8, ground := Ground.guard }], guard := some (8, true) }) (v := _) rfl (by kernel_rfl) (by kernel_rfl) (by kernel_rfl) (fun _ _ _ h => h) (Or.inr ⟨by rfl, by rfl⟩) (by assumption) ?rest21c
    try simp only [Act.put, List.setIfInBounds_toArray, List.set_cons_zero, List.set_cons_succ]
    refine' wpAnyH_take (i := 22) (oi := { dst := some 25, op := Op.call { callee := Callee.value (Operand.func 104), args := #[Operand.tmp 24], argTypes := #[9] }, type := 2, pos := "l13_core.go:398", after := #[{ on := 21, ground := Ground.data }, { on := 8, ground := Ground.chain }, { on := 8, ground := Ground.guard }], guard := some (8, true) }) (v := _) rfl (by kernel_rfl) (by kernel_rfl) (by kernel_rfl) (fun _ _ _ h => h) (Or.inr ⟨by rfl, by rfl⟩) (by assumption) ?rest22c
    try simp only [Act.put, List.setIfInBounds_toArray, List.set_cons_zero, List.set_cons_succ]
    refine' wpAnyH_take (i := 23) (oi := { dst := some 26, op := Op.binOp BinOp.eql 2 (Operand.tmp 18) (Operand.tmp 25) 2, type := 4, pos := "l13_core.go:398", after := #[{ on := 15, ground := Ground.data }, { on := 22, ground := Ground.data }, { on := 8, ground := Ground.guard }], guard := some (8, true) }) (v := _) rfl (by kernel_rfl) (by kernel_rfl) (by kernel_rfl) (fun _ _ _ h => h) (Or.inr ⟨by rfl, by rfl⟩) (by assumption) ?rest23c
    try simp only [Act.put, List.setIfInBounds_toArray, List.set_cons_zero, List.set_cons_succ]
    refine' wpAnyH_take (i := 24) (oi := { dst := some 27, op := Op.pick (Operand.tmp 11) (Operand.tmp 26) (Operand.const (Value.bool false)), type := 4, pos := "l13_core.go:398", after := #[{ on := 8, ground := Ground.data }, { on := 23, ground := Ground.data }], guard := none }) (v := _) rfl (by kernel_rfl) (by kernel_rfl) (by kernel_rfl) (fun _ _ _ h => h) (Or.inl ⟨by rfl, ?hy24c⟩) (by assumption) ?rest24c
    case hy24c => (intro w hSw; (try dsimp only at hSw); go_simp; (try with_reducible rfl))
    try simp only [Act.put, List.setIfInBounds_toArray, List.set_cons_zero, List.set_cons_succ]
    refine' wpAnyH_take (i := 25) (oi := { dst := some 28, op := Op.move (Operand.tmp 27), type := 4, pos := "l13_core.go:398", after := #[{ on := 24, ground := Ground.data }, { on := 22, ground := Ground.chain }], guard := none }) (v := _) rfl (by kernel_rfl) (by kernel_rfl) (by kernel_rfl) (fun _ _ _ h => h) (Or.inl ⟨by rfl, ?hy25c⟩) (by assumption) ?rest25c
    case hy25c => (intro w hSw; (try dsimp only at hSw); go_simp; (try with_reducible rfl))
    try simp only [Act.put, List.setIfInBounds_toArray, List.set_cons_zero, List.set_cons_succ]
    refine' wpAnyH_take (i := 26) (oi := { dst := some 29, op := Op.fieldAddr 123 (Operand.tmp 1) 0, type := 0, pos := "l13_core.go:398", after := #[{ on := 25, ground := Ground.guard }], guard := some (25, true) }) (v := _) rfl (by kernel_rfl) (by kernel_rfl) (by kernel_rfl) (fun _ _ _ h => h) (Or.inr ⟨by rfl, by rfl⟩) (by assumption) ?rest26c
    try simp only [Act.put, List.setIfInBounds_toArray, List.set_cons_zero, List.set_cons_succ]
    refine' wpAnyH_take (i := 27) (oi := { dst := some 30, op := Op.load 113 (Operand.tmp 29), type := 113, pos := "l13_core.go:398", after := #[{ on := 26, ground := Ground.data }, { on := 25, ground := Ground.guard }], guard := some (25, true) }) (v := _) rfl (by kernel_rfl) (by kernel_rfl) (by kernel_rfl) (fun _ _ _ h => h) (Or.inr ⟨by rfl, by rfl⟩) (by assumption) ?rest27c
    try simp only [Act.put, List.setIfInBounds_toArray, List.set_cons_zero, List.set_cons_succ]
    refine' wpAnyH_take (i := 28) (oi := { dst := some 31, op := Op.call { callee := Callee.value (Operand.func 86), args := #[Operand.tmp 30, Operand.const (Value.int IntKind.i64 9)], argTypes := #[113, 3] }, type := 4, pos := "l13_core.go:398", after := #[{ on := 27, ground := Ground.data }, { on := 25, ground := Ground.chain }, { on := 25, ground := Ground.guard }], guard := some (25, true) }) (v := _) rfl (by kernel_rfl) (by kernel_rfl) (by kernel_rfl) (fun _ _ _ h => h) (Or.inr ⟨by rfl, by rfl⟩) (by assumption) ?rest28c
    try simp only [Act.put, List.setIfInBounds_toArray, List.set_cons_zero, List.set_cons_succ]
    refine' wpAnyH_take (i := 29) (oi := { dst := some 32, op := Op.pick (Operand.tmp 28) (Operand.tmp 31) (Operand.const (Value.bool false)), type := 4, pos := "l13_core.go:398", after := #[{ on := 25, ground := Ground.data }, { on := 28, ground := Ground.data }], guard := none }) (v := _) rfl (by kernel_rfl) (by kernel_rfl) (by kernel_rfl) (fun _ _ _ h => h) (Or.inl ⟨by rfl, ?hy29c⟩) (by assumption) ?rest29c
    case hy29c => (intro w hSw; (try dsimp only at hSw); go_simp; (try with_reducible rfl))
    try simp only [Act.put, List.setIfInBounds_toArray, List.set_cons_zero, List.set_cons_succ]
    refine' wpAnyH_take (i := 30) (oi := { dst := some 2, op := Op.assign (Operand.tmp 32), type := 4, pos := "l13_core.go:398", after := #[{ on := 29, ground := Ground.data }, { on := 28, ground := Ground.chain }, { on := 0, ground := Ground.phase }, { on := 1, ground := Ground.phase }, { on := 2, ground := Ground.phase }, { on := 3, ground := Ground.phase }, { on := 4, ground := Ground.phase }, { on := 5, ground := Ground.phase }, { on := 6, ground := Ground.phase }, { on := 7, ground := Ground.phase }, { on := 8, ground := Ground.phase }, { on := 9, ground := Ground.phase }, { on := 10, ground := Ground.phase }, { on := 11, ground := Ground.phase }, { on := 12, ground := Ground.phase }, { on := 13, ground := Ground.phase }, { on := 14, ground := Ground.phase }, { on := 15, ground := Ground.phase }, { on := 16, ground := Ground.phase }, { on := 17, ground := Ground.phase }, { on := 18, ground := Ground.phase }, { on := 19, ground := Ground.phase }, { on := 20, ground := Ground.phase }, { on := 21, ground := Ground.phase }, { on := 22, ground := Ground.phase }, { on := 23, ground := Ground.phase }, { on := 24, ground := Ground.phase }, { on := 25, ground := Ground.phase }, { on := 26, ground := Ground.phase }, { on := 27, ground := Ground.phase }, { on := 28, ground := Ground.phase }, { on := 29, ground := Ground.phase }], guard := none }) (v := _) rfl (by kernel_rfl) (by kernel_rfl) (by kernel_rfl) (fun _ _ _ h => h) (Or.inl ⟨by rfl, ?hy30c⟩) (by assumption) ?rest30c
    case hy30c => (intro w hSw; (try dsimp only at hSw); go_simp; (try with_reducible rfl))
    try simp only [Act.put, List.setIfInBounds_toArray, List.set_cons_zero, List.set_cons_succ]
    refine wpAnyH_done (by kernel_rfl) ?_ _
    go_wp2_with fail
    go_ret
    exact ⟨by rw [HF.out]; rfl, HB.out.trans ((Below.refl _ _).drew.mono HB.out.size)⟩


set_option maxHeartbeats 1000000 in
theorem w_0 (d : Nd) (W : World) : Calls Try.prog 83 #[.agg #[d.ptr]] W fun e W' => e = .returned (.bool false) ∧ Below W.heap.size W W' := by
  simp only [Nd.ptr]
  have HB := hide (below_alloc1 W (.cells #[.pointer (some ⟨d.b, d.o, none⟩)] 113))
  go_enter Try.func83, Try.ntmps83
  go_wp2_with fail
  go_ret
  exact ⟨rfl, HB.out⟩

end Go.Proofs.Ytcnokpaicnjkfaa

namespace Go.Proofs.Ytcnokpaicnjkfaa
open Go.RowKit Go.Joins

theorem rdS_sz : ∀ (n : Nat) (F : Fo), Fit E F (rep (E 1) n) → ∀ x ∈ rdS F, x.size ≤ maxLen
  | 0, F, h, x, hx => by rw [fit_nil h] at hx; simp [rdS] at hx
  | n + 1, F, h, x, hx => by
    replace h : Fit E F (.t :: rep (E 1) n) := h
    obtain ⟨y, q, rfl, hy, hq⟩ := fit_t h
    simp only [rdS, List.mem_cons] at hx
    rcases hx with rfl | hx
    · exact hy
    · exact rdS_sz n q hq x hx

theorem lg8 (P : Prop) (m oc : Bool) (n3 n4 kn an : Nat) (ho : oc = true ↔ P) : (n3 = 0 ∧ m = false ∧ n4 = 0 ∧ (kn = 1 ∨ kn = 2) ∧ ¬ (kn = 1 ∧ an = 0) ∧ P) ↔ (((decide ((kn : Int) = 2) || (decide ((kn : Int) = 1) && decide ((0 : Int) < an))) && oc) && (!(m || decide (0 < n3)) && !decide (0 < n4))) = true := by
  rw [← ho]
  cases m <;> cases oc <;> simp <;> omega

set_option maxHeartbeats 2000000 in
set_option maxRecDepth 100000 in
theorem w_8 (d : Nd) (con : ByteArray) (cs : List ByteArray) (nm : ByteArray) (mn : Bool) (la na ka aa : Option Addr) (lc nc kn kc an ac : Nat) (lm : List Int) (ns : List ByteArray) (ak : Fo) (W : World) (hh : Wc d 8 nm mn la na ka aa lc nc kn kc an ac lm ns (rdA ak) W) (hak : Fit E ak (rep (E 2) an)) (hsa : ak.Sub W (fun b => b < W.heap.size) aa an ac) (hsz : ak.size ≤ 16777216) (q : Bool) (hq : q = true ↔ shp ⟨con, cs, 8, nm, mn, lm, ns⟩ kn (rdA ak)) :
    Calls Try.prog 101 #[.agg #[d.ptr]] W fun e W' => e = .returned (.bool q) ∧ Below W.heap.size W W' := by
  obtain ⟨hc, hb, hl, hn, hmx, hnz, hkn, han, hal, hnm⟩ := hh
  rw [shp_8, hal] at hq
  obtain ⟨n3, hn3⟩ : ∃ n, n = lm.length := ⟨_, rfl⟩
  obtain ⟨n4, hn4⟩ : ∃ n, n = ns.length := ⟨_, rfl⟩
  have el : lm = [] ↔ n3 = 0 := by rw [hn3]; exact List.length_eq_zero_iff.symm
  have es : ns = [] ↔ n4 = 0 := by rw [hn4]; exact List.length_eq_zero_iff.symm
  rw [el, es] at hq
  rw [← hn3, ← hn4] at hc
  simp only [Nd.ptr]
  obtain ⟨r, hr⟩ : ∃ r, r = only 25 (!nm.toList.isEmpty) (mn || decide (0 < n3)) (decide (0 < n4)) (decide (0 < kn)) (decide (0 < an)) := ⟨_, rfl⟩
  obtain ⟨V0, hV0⟩ : ∃ V, W.alloc (.cells #[.pointer (some ⟨d.b, d.o, none⟩)] 122) = V := ⟨_, rfl⟩
  have b0 : Below W.heap.size W V0 := by rw [← hV0]; exact below_alloc1 _ _
  have z0 : V0.heap.size = W.heap.size + 1 := by rw [← hV0]; simp
  have hbx : V0.cell? ⟨W.heap.size, 0, none⟩ = some (.pointer (some ⟨d.b, d.o, none⟩)) := by rw [← hV0]; simp
  have hBW : ∀ V, Kept (fun c => c < V0.heap.size) V0 V → Below W.heap.size W V := fun V k => Below.kept b0 k (fun c hc => by show c < _; omega) (Nat.le_refl _)
  have HQL : Hid (∀ V, Kept (fun c => c < V0.heap.size) V0 V → V.cell? ⟨W.heap.size, 0, none⟩ = some (.pointer (some ⟨d.b, d.o, none⟩)) ∧ V.cell? ⟨d.b, d.o + 5, none⟩ = some (.slice ka kn kc) ∧ V.cell? ⟨d.b, d.o + 6, none⟩ = some (.slice aa an ac)) := fun V k => ⟨(k.cell (p := ⟨W.heap.size, 0, none⟩) (by show W.heap.size < _; omega) (by show W.heap.size < _; omega)).trans hbx, (hc.below (hBW V k) hb) 5 _ rfl, (hc.below (hBW V k) hb) 6 _ rfl⟩
  have HO := hide (fun V (k : Kept (fun c => c < V0.heap.size) V0 V) => i_only 25 d 8 nm mn la na ka aa n3 lc n4 nc kn kc an ac V (hc.below (hBW V k) hb) (Nat.lt_of_lt_of_le hb (hBW V k).size) r hr)
  simp only [Nd.ptr] at HO
  have HRA : Hid (∀ V, Kept (fun c => c < V0.heap.size) V0 V → Rd E (E 2) an W.heap.size aa 0 ak V) := fun V k => ((Rd.start hak hsa).below b0 (Nat.le_refl _)).kept k (by omega) (fun c hc => by show c < _; omega)
  have HBW := hide hBW
  have HZ0 := hide z0
  have HKE : Hid (KW V0 V0 (.slice none 0 0) []) := ⟨⟨rfl, .inl ⟨rfl, rfl⟩⟩, (fun c hc => absurd (show (none : Option Nat) = some c from hc) (by simp)), Kept.refl _ _⟩
  rw [only_25] at hr
  have HQ : Hid (∀ oc : Bool, (oc = true ↔ ((∀ c ∈ (rdA ak).cons, ¬ c = ⟨#[]⟩) ∧ (rdA ak).anm ∧ (rdA ak).cons.Nodup)) → q = (((decide ((kn : Int) = 2) || (decide ((kn : Int) = 1) && decide ((0 : Int) < an))) && oc) && r)) := fun oc ho => Bool.eq_iff_iff.2 (hq.trans (by rw [hr]; exact lg8 _ _ _ _ _ _ _ ho))
  have HV0 := hide hV0
  have c0 := (HQL.out V0 (Kept.refl _ _)).1
  have c5 := (HQL.out V0 (Kept.refl _ _)).2.1
  have c6 := (HQL.out V0 (Kept.refl _ _)).2.2
  clear hV0 b0 z0 hbx hBW hq hr el es hn3 hn4 hc hl hn hal hnz hnm hak hsa hb
  go_enter Try.func101, Try.ntmps101
  go_upto_region 1 with fail
  rw [HV0.out]
  clear HV0
  go_wp2_with fail
  go_loopw [3, 14] (fun s3 s14 wr => ∃ (i : Nat) (r : Fo) (L : List ByteArray) (a : Option Addr) (n c : Nat), s3 = .slice a n c ∧ s14 = .int .i64 i ∧ i ≤ an ∧ Hid (n = L.length ∧ L.length = i ∧ r.size ≤ ak.size) ∧ Hid (L ++ (rdA r).cons = (rdA ak).cons ∧ ((rdA ak).anm ↔ (rdA r).anm) ∧ ∀ c ∈ L, c.size ≤ maxLen) ∧ Hid (Rd E (E 2) an W.heap.size aa i r wr) ∧ Hid (KW V0 wr (.slice a n c) L)) (fun _ s14 _ => an - (intOf s14).toNat)
  case atStart => exact ⟨0, ak, [], _, _, _, rfl, rfl, Nat.zero_le _, ⟨rfl, rfl, Nat.le_refl _⟩, ⟨rfl, Iff.rfl, fun c hc => absurd hc List.not_mem_nil⟩, HRA.out _ HKE.out.kp, HKE⟩
  case round =>
    clear c0 c5 c6 HKE
    obtain ⟨i, rw_, L, ca0, n, c, rfl, rfl, hin, hlen, hinv, hRd, hKW⟩ := hrel
    by_cases hi : i < an
    · obtain ⟨x, rr, b, o, rfl, hx, rfl, hb, hcy, hxs, hR1⟩ := hRd.out.next hi (by decide)
      obtain ⟨con, ca, cn, cc, ck, y, rfl, hcz, hck, hy, e1, e2, -⟩ := altR hx rr
      obtain ⟨k8, nm8, mn8, la8, ln8, lc8, lk8, na8, nn8, nc8, nk8, ka8, kn8, kc8, kk8, aa8, an8, ac8, ak8, rfl, -⟩ := core_open hy
      obtain ⟨g1, g2, g3⟩ := hinv.out
      rw [e1] at g1
      rw [e2] at g2
      have hii : (i : Int) < an := by omega
      have hzz := hlen.out.2.2
      rw [Fo.app_size] at hzz
      simp only [Fo.size] at hzz
      have hkz : V0.heap.size ≤ wr.heap.size := hKW.out.kp.size
      have hz0 := HZ0.out
      simp only [Fo.vals] at hcy
      have e0 : wr.cell? ⟨b, o + i * 9, none⟩ = some (.string con) := hcy 0 _ rfl
      have e1 : wr.cell? ⟨b, o + i * 9 + 1, none⟩ = some (.slice ca cn cc) := hcy 1 _ rfl
      have e2 : wr.cell? ⟨b, o + i * 9 + 2, none⟩ = some (.int .i64 k8) := hcy 2 _ rfl
      have e3 : wr.cell? ⟨b, o + i * 9 + 3, none⟩ = some (.string nm8) := hcy 3 _ rfl
      have e4 : wr.cell? ⟨b, o + i * 9 + 4, none⟩ = some (.bool mn8) := hcy 4 _ rfl
      have e5 : wr.cell? ⟨b, o + i * 9 + 5, none⟩ = some (.slice la8 ln8 lc8) := hcy 5 _ rfl
      have e6 : wr.cell? ⟨b, o + i * 9 + 6, none⟩ = some (.slice na8 nn8 nc8) := hcy 6 _ rfl
      have e7 : wr.cell? ⟨b, o + i * 9 + 7, none⟩ = some (.slice ka8 kn8 kc8) := hcy 7 _ rfl
      have e8 : wr.cell? ⟨b, o + i * 9 + 8, none⟩ = some (.slice aa8 an8 ac8) := hcy 8 _ rfl
      have kB := below_alloc1 wr (.cells #[.string con, .slice ca cn cc, .int .i64 k8, .string nm8, .bool mn8, .slice la8 ln8 lc8, .slice na8 nn8 nc8, .slice ka8 kn8 kc8, .slice aa8 an8 ac8] 82)
      obtain ⟨hsr, hln⟩ := sr_of hck hxs.1
      have hcn : cn ≤ 16777216 := by
        have h1 := Fit.len hck
        rw [rep_len] at h1
        have h2 : (E 1).length = 1 := rfl
        rw [h2] at h1
        have := ck.len_le
        omega
      obtain ⟨q2, hq2⟩ : ∃ q2 : Bool, q2 = true ↔ okNames (rdS ck) := by
        by_cases h : okNames (rdS ck)
        · exact ⟨true, by simp only [true_iff]; exact h⟩
        · exact ⟨false, by simp only [Bool.false_eq_true, false_iff]; exact h⟩
      have HC := hide (i_names ca cc (rdS ck) (wr.alloc (.cells #[.string con, .slice ca cn cc, .int .i64 k8, .string nm8, .bool mn8, .slice la8 ln8 lc8, .slice na8 nn8 nc8, .slice ka8 kn8 kc8, .slice aa8 an8 ac8] 82)) W.heap.size (by have := kB.size; omega) (by omega) (hsr.below kB (fun b hb => by show b < wr.heap.size; omega)) (rdS_sz _ _ hck) q2 hq2)
      rw [hln] at HC
      have HQ2 := hide hq2
      have HG1 := hide g1
      have HG2 := hide g2
      have HG3 := hide g3
      have HR1 := hide hR1
      have HCZ := hide hcz
      have HKB := hide kB
      have HZZ : Hid (rr.size ≤ ak.size) := by show _ ≤ _; omega
      clear hcy hxs hx hck hsr hln hq2 g1 g2 g3 hR1 hinv hRd hy hcz kB hzz
      go_wp2_with fail
      refine HC.out.mono ?_
      rintro e w1 ⟨rfl, b1⟩
      clear HC
      have HK1 := hide ((hKW.out.keep (kt HKB.out)).keep (kt b1))
      cases q2 with
      | false =>
        have HF : Hid (q = false) := by
          obtain ⟨oc, ho⟩ : ∃ oc : Bool, oc = true ↔ ((∀ c ∈ (rdA ak).cons, ¬ c = ⟨#[]⟩) ∧ (rdA ak).anm ∧ (rdA ak).cons.Nodup) := by
            refine ⟨false, ?_⟩
            simp only [Bool.false_eq_true, false_iff]
            intro h
            exact absurd (HQ2.out.2 (HG2.out.1 h.2.1).1) (by simp)
          have hf : oc = false := by
            cases oc with
            | false => rfl
            | true => exact absurd (HQ2.out.2 (HG2.out.1 (ho.1 rfl).2.1).1) (by simp)
          have h := HQ.out oc ho
          rw [hf, Bool.and_false, Bool.false_and] at h
          exact h
        clear b1 HG1 HG2
        go_wp2_with fail
        go_ret
        exact ⟨by rw [HF.out]; rfl, HBW.out w1 HK1.out.kp⟩
      | true =>
        have p2 : w1.cell? ⟨wr.heap.size, 0, none⟩ = some (.string con) := (b1.cell (p := ⟨wr.heap.size, 0, none⟩) (by simp)).trans (by simp)
        have HRn := hide ((HR1.out.below HKB.out (by omega)).below b1 (by have := HKB.out.size; omega))
        obtain ⟨V5, hV5⟩ : ∃ V, w1.alloc (.cells #[.string con] 9) = V := ⟨_, rfl⟩
        have k5 : Kept (fun _ => True) w1 V5 := by rw [← hV5]; exact Kept.alloc _ _ _
        have HBL : Hid (V5.heap[w1.heap.size]? = some (.cells [Value.string con].toArray 9)) := by unfold Hid; rw [← hV5]; exact (MapKept.heap_alloc w1 _).1
        have e1 := hlen.out.1
        have HOS : Hid (V5.ownsRow 0 9 1 (.slice ca0 n c) n (L.map Value.string)) := by
          have h := (HK1.out.keep k5).own
          rw [← e1] at h
          exact h
        have H63 : Hid (n + 1 ≤ maxLen ∧ (n + 1) * 16 ≤ 140737488355328) := by
          have h := hlen.out.2
          unfold Hid maxLen
          omega
        have HEND : Hid (∀ g5 q5 w5, w5.ownsRow 0 9 1 (.slice (some ⟨g5, 0, none⟩) (n + 1) q5) (n + 1) (L.map Value.string ++ [.string con]) → V5.grownBy w5 (Value.slice ca0 n c).ownBlock → ((Value.slice ca0 n c).ownBlock = some g5 ∨ g5 = V5.heap.size) → KW V0 w5 (.slice (some ⟨g5, 0, none⟩) (n + 1) q5) (L ++ [con]) ∧ Rd E (E 2) an W.heap.size (some ⟨b, o, none⟩) (i + 1) rr w5) := fun g5 q5 w5 hO hG hat => by
          have h := KW.grow (g := g5) (cap := q5) (s := con) HK1.out k5 (by rw [← e1]; exact hO) hG hat
          rw [← e1] at h
          refine ⟨h, HRn.out.kept (k5.mono (fun c _ (_ : c < W.heap.size) => trivial) |>.trans (Kept.grown hG (fun c' hc' hlt => ?_))) (by have := HK1.out.kp.size; omega) (fun c hc => hc)⟩
          have := HK1.out.hi c' hc'
          omega
        have HRES : Hid (n + 1 = (L ++ [con]).length ∧ (L ++ [con]).length = i + 1 ∧ rr.size ≤ ak.size) := by
          have h := hlen.out
          refine ⟨by simp; omega, by simp; omega, HZZ.out⟩
        have HINV : Hid ((L ++ [con]) ++ (rdA rr).cons = (rdA ak).cons ∧ ((rdA ak).anm ↔ (rdA rr).anm) ∧ ∀ c ∈ L ++ [con], c.size ≤ maxLen) := by
          refine ⟨by rw [← HG1.out]; simp, ⟨fun h => (HG2.out.1 h).2, fun h => HG2.out.2 ⟨HQ2.out.1 rfl, h⟩⟩, fun c hc => ?_⟩
          rcases List.mem_append.1 hc with h | h
          · exact HG3.out c h
          · rw [List.mem_singleton.1 h]
            exact HCZ.out
        have HV5 := hide hV5
        clear b1 hV5 k5 e1 HG1 HG2 HG3 hlen
        go_wp2_with (at_builtin; rw [HV5.out]; refine ur_stepL rfl _ _ 25 9 rfl Try.info9 Try.underlying25 rfl (by decide) 0 V5 (.slice ca0 n c) n (L.map Value.string) [.string con] w1.heap.size 1 rfl rfl (Nat.zero_le _) HOS.out HBL.out rfl (by simp [Value.oneCell']) H63.out.1 H63.out.2 ?_; rintro g5 q5 w5 hO5 hG5 hat5; have HE5 := hide (HEND.out g5 q5 w5 hO5 hG5 hat5); clear hO5 hG5 hat5)
        go_roundw
        case rel => exact ⟨i + 1, rr, L ++ [con], _, _, _, rfl, rfl, by omega, HRES, HINV, HE5.out.2, HE5.out.1⟩
        case measure => simp [intOf]; omega
    · obtain ⟨rfl, rfl⟩ := hRd.out.done hi
      obtain ⟨g1, g2, g3⟩ := hinv.out
      rw [rdA_nil] at g1 g2
      simp only [Tm.cons, List.append_nil] at g1
      obtain ⟨oc, hoc⟩ : ∃ oc : Bool, oc = true ↔ okNames L := by
        by_cases h : okNames L
        · exact ⟨true, by simp only [true_iff]; exact h⟩
        · exact ⟨false, by simp only [Bool.false_eq_true, false_iff]; exact h⟩
      have HF := hide (HQ.out oc (by
        rw [hoc, ← g1]
        exact ⟨fun h => ⟨h.1, g2.2 trivial, h.2⟩, fun h => ⟨h.1, h.2.2⟩⟩))
      have HTW : Hid (Calls Try.prog 97 #[.slice ca0 n c] wr fun e W' => e = .returned (.bool oc) ∧ Below wr.heap.size wr W') := by
        have h := hKW.out.own
        have e := hlen.out.1
        obtain ⟨a', c', e', -, hs⟩ := sr_row h
        cases e'
        rw [e]
        exact i_names ca0 c L wr wr.heap.size (Nat.le_refl _) (by have := hlen.out.2.1; omega) hs g3 oc hoc
      obtain ⟨f0, f5, f6⟩ := HQL.out wr hKW.out.kp
      have hii : ¬ (i : Int) < i := by omega
      have HOE : Hid (∀ w1, Below wr.heap.size wr w1 → Kept (fun c => c < V0.heap.size) V0 w1) := fun w1 b1 => hKW.out.kp.trans ((kt b1).mono (fun _ _ _ => trivial))
      clear g1 g2 g3 hoc hinv hRd hlen
      by_cases k2 : (kn : Int) = 2
      · rw [decide_eq_true k2, Bool.true_or, Bool.true_and] at HF
        cases oc with
        | true =>
          go_wp2_with (first | (go_at_call 97; refine HTW.out.mono ?_; rintro e w1 ⟨rfl, b1⟩; have fx := (HQL.out w1 (HOE.out w1 b1)).1) | (go_at_call 86; refine (HO.out w1 (HOE.out w1 b1)).mono ?_; rintro e w2 ⟨rfl, b2⟩) | fail)
          go_ret
          exact ⟨by rw [HF.out]; rfl, (HBW.out w1 (HOE.out w1 b1)).trans (b2.mono (HBW.out w1 (HOE.out w1 b1)).size)⟩
        | false =>
          go_wp2_with (first | (go_at_call 97; refine HTW.out.mono ?_; rintro e w1 ⟨rfl, b1⟩) | fail)
          go_ret
          exact ⟨by rw [HF.out]; rfl, HBW.out w1 (HOE.out w1 b1)⟩
      · rw [decide_eq_false k2, Bool.false_or] at HF
        by_cases k1 : (kn : Int) = 1 ∧ (0 : Int) < i
        · obtain ⟨k1a, k1b⟩ := k1
          rw [decide_eq_true k1a, decide_eq_true k1b, Bool.true_and, Bool.true_and] at HF
          have k1n : 0 < i := by omega
          cases oc with
          | true =>
            go_wp2_with (first | (go_at_call 97; refine HTW.out.mono ?_; rintro e w1 ⟨rfl, b1⟩; have fx := (HQL.out w1 (HOE.out w1 b1)).1) | (go_at_call 86; refine (HO.out w1 (HOE.out w1 b1)).mono ?_; rintro e w2 ⟨rfl, b2⟩) | fail)
            go_ret
            exact ⟨by rw [HF.out]; rfl, (HBW.out w1 (HOE.out w1 b1)).trans (b2.mono (HBW.out w1 (HOE.out w1 b1)).size)⟩
          | false =>
            go_wp2_with (first | (go_at_call 97; refine HTW.out.mono ?_; rintro e w1 ⟨rfl, b1⟩) | fail)
            go_ret
            exact ⟨by rw [HF.out]; rfl, HBW.out w1 (HOE.out w1 b1)⟩
        · have HG : Hid (q = false) := by
            have h := HF.out
            have h2 : (decide ((kn : Int) = 1) && decide ((0 : Int) < i)) = false := by
              rw [Bool.and_eq_false_iff, decide_eq_false_iff_not, decide_eq_false_iff_not]
              omega
            rw [h2, Bool.false_and, Bool.false_and] at h
            exact h
          clear HF
          by_cases k1a : (kn : Int) = 1
          · have k1b : ¬ 0 < i := by omega
            have k1c : ¬ (0 : Int) < i := by omega
            go_wp2_with fail
            go_ret
            exact ⟨by rw [HG.out]; rfl, HBW.out wr hKW.out.kp⟩
          · go_wp2_with fail
            go_ret
            exact ⟨by rw [HG.out]; rfl, HBW.out wr hKW.out.kp⟩

end Go.Proofs.Ytcnokpaicnjkfaa
