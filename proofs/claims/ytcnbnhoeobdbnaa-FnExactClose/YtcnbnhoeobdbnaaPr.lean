import Derived.Test.YtcnbnhoeobdbnaaMkC
namespace Go.Proofs.Ytcnbnhoeobdbnaa
open Go.RowKit Go.Joins

/-- A pred. -/
structure Pd where
  nm : ByteArray
  sd : Int

def pv (x : Pd) : Value := .agg #[.string x.nm, .int .i64 x.sd]

/-- A pred's own facts. -/
structure Pd.Ok (x : Pd) : Prop where
  s : (Lit.int .i64 x.sd).wf = true
  n : x.nm.size ≤ maxLen

/-- The row lies in block b from cell o on. -/
def PRow (W : World) (L : List Pd) (b o : Nat) : Prop :=
  ∀ (i : Nat) (x : Pd), L[i]? = some x → W.cell? ⟨b, o + i * 2, none⟩ = some (.string x.nm) ∧ W.cell? ⟨b, o + i * 2 + 1, none⟩ = some (.int .i64 x.sd)

/-- A slice's value holds the row. -/
structure PSl (W : World) (n0 : Nat) (a : Option Addr) (cap : Nat) (L : List Pd) : Prop where
  len : L.length ≤ cap
  cap : cap ≤ maxLen
  ok : ∀ x ∈ L, x.Ok
  row : 0 < L.length → ∃ b o, a = some ⟨b, o, none⟩ ∧ b < n0 ∧ PRow W L b o

theorem PRow.below {A B : World} {n : Nat} {L : List Pd} {b o : Nat} (h : PRow A L b o) (k : Below n A B) (hb : b < n) : PRow B L b o := fun i x hx => by
  obtain ⟨h1, h2⟩ := h i x hx
  exact ⟨(k.cell (p := ⟨b, _, none⟩) hb).trans h1, (k.cell (p := ⟨b, _, none⟩) hb).trans h2⟩

theorem PSl.below {A B : World} {n n0 : Nat} {L : List Pd} {a : Option Addr} {cap : Nat} (h : PSl A n0 a cap L) (k : Below n A B) (hb : n0 ≤ n) : PSl B n0 a cap L :=
  ⟨h.len, h.cap, h.ok, fun hl => by obtain ⟨b, o, e, s, x⟩ := h.row hl; exact ⟨b, o, e, s, x.below k (by omega)⟩⟩

theorem PSl.mono {A : World} {n n0 : Nat} {L : List Pd} {a : Option Addr} {cap : Nat} (h : PSl A n0 a cap L) (hb : n0 ≤ n) : PSl A n a cap L :=
  ⟨h.len, h.cap, h.ok, fun hl => by obtain ⟨b, o, e, s, x⟩ := h.row hl; exact ⟨b, o, e, by omega, x⟩⟩

/-- Bytes of names. -/
def pns : List Pd → Nat
  | [] => 0
  | x :: r => x.nm.size + pns r

theorem pns_take : ∀ (L : List Pd) (i : Nat) (x : Pd), L[i]? = some x → pns (L.take (i + 1)) = pns (L.take i) + x.nm.size
  | [], i, x, h => by simp at h
  | y :: r, 0, x, h => by simp at h; subst h; simp [pns]
  | y :: r, i + 1, x, h => by
    simp only [List.getElem?_cons_succ] at h
    simp only [List.take_succ_cons, pns]
    rw [pns_take r i x h]
    omega

theorem pns_take_le : ∀ (L : List Pd) (i : Nat), pns (L.take i) ≤ pns L
  | [], i => by simp
  | y :: r, 0 => by simp [pns]
  | y :: r, i + 1 => by
    simp only [List.take_succ_cons, pns]
    have := pns_take_le r i
    omega

/-- Preds and bytes of names. -/
def pft (L : List Pd) : Nat := L.length + pns L

set_option maxHeartbeats 1000000 in
set_option maxRecDepth 100000 in
theorem sz_pred (x : Pd) (left : Int) (W : World) (h0 : 0 ≤ left) (h1 : left ≤ 1048576) (hx : x.Ok) :
    Calls Try.prog 63 #[pv x, .int .i64 left] W fun e W' => e = .returned (.int .i64 (szV left x.nm.size)) ∧ Below W.heap.size W W' := by
  unfold pv
  obtain ⟨nm, sd⟩ := x
  have hmx : nm.size ≤ 9223372036854775807 := by have := hx.n; simp only [maxLen] at this; omega
  by_cases h : left < nm.size
  · go_enter Try.func63, Try.ntmps63
    go_wp2_with fail
    go_ret
    exact ⟨by rw [szV_lt (by omega)]; rfl, below_alloc1 _ _⟩
  · go_enter Try.func63, Try.ntmps63
    go_wp2_with fail
    go_ret
    exact ⟨by rw [szV_ge (by omega)]; exact ret_int (by omega), below_alloc1 _ _⟩

set_option maxHeartbeats 1000000 in
set_option maxRecDepth 100000 in
theorem sz_preds (L : List Pd) (left : Int) (W : World) (a : Option Addr) (cap : Nat) (h0 : 0 ≤ left) (h1 : left ≤ 1048576) (hs : PSl W W.heap.size a cap L) :
    Calls Try.prog 29 #[.slice a L.length cap, .int .i64 left] W fun e W' => e = .returned (.int .i64 (szV left (pft L))) ∧ Below W.heap.size W W' := by
  have hmx : L.length ≤ 9223372036854775807 := by have h2 := hs.len; have h3 := hs.cap; simp only [maxLen] at h3; omega
  unfold pft
  by_cases h : left < L.length
  · go_enter Try.func29, Try.ntmps29
    go_wp2_with fail
    go_ret
    exact ⟨by rw [szV_lt (by omega)]; rfl, Below.refl _ _⟩
  · go_enter Try.func29, Try.ntmps29
    go_wp2_with fail
    go_loopw [1, 5] (fun s1 s5 wr => ∃ (M : Int) (i : Nat), s1 = .int .i64 M ∧ s5 = .int .i64 i ∧ i ≤ L.length ∧ 0 ≤ M ∧ M + L.length + pns (L.take i) = left ∧ Below W.heap.size W wr) (fun _ s5 _ => L.length - (intOf s5).toNat)
    case atStart => exact ⟨left - L.length, 0, rfl, rfl, by omega, by omega, by simp [pns], Below.refl _ _⟩
    case round =>
      obtain ⟨M, i, rfl, rfl, hi, hM0, hM, bel⟩ := hrel
      by_cases hl : i < L.length
      · obtain ⟨x, hx⟩ : ∃ x, L[i]? = some x := ⟨L[i], by simp [hl]⟩
        obtain ⟨b, o, rfl, hb, hrow⟩ := hs.row (by omega)
        have hok := hs.ok x (List.mem_of_getElem? hx)
        obtain ⟨c1, c2⟩ := (hrow.below bel hb) i x hx
        have e1 := pns_take L i x hx
        have e2 := pns_take_le L (i + 1)
        have hl' : (i : Int) < L.length := by omega
        have HZ := hide (sz_pred x M wr hM0 (by omega) hok)
        unfold pv at HZ
        by_cases h2 : M < (x.nm.size : Int)
        · go_wp2_with fail
          refine HZ.out.mono ?_
          rintro e w1 ⟨rfl, b1⟩
          rw [szV_lt (by omega)]
          go_wp2_with fail
          go_ret
          exact ⟨by rw [szV_lt (by omega)]; rfl, bel.trans (b1.mono bel.size)⟩
        · go_wp2_with fail
          refine HZ.out.mono ?_
          rintro e w1 ⟨rfl, b1⟩
          rw [szV_ge (by omega)]
          go_wp2_with fail
          go_roundw
          case rel => exact ⟨M - x.nm.size, i + 1, by go_num, by go_num, by omega, by omega, by omega, bel.trans (b1.mono bel.size)⟩
          case measure => simp [intOf]; omega
      · obtain rfl : i = L.length := by omega
        rw [List.take_length] at hM
        go_wp2_with fail
        go_ret
        exact ⟨by rw [szV_ge (by omega)]; exact ret_int (by omega), bel⟩

set_option maxHeartbeats 1000000 in
set_option maxRecDepth 100000 in
theorem to_pred (x : Pd) (W : World) : Calls Try.prog 67 #[pv x] W fun e W' => e = .returned (pv x) ∧ Below W.heap.size W W' := by
  obtain ⟨nm, sd⟩ := x
  unfold pv
  go_enter Try.func67, Try.ntmps67
  go_wp2_with fail
  refine bodyPost_ret (v := .agg #[.string nm, .int .i64 sd]) (by simp [results, Try.results67, go_sem]) rfl ⟨rfl, ?_⟩
  exact below_alloc3 _ _ _ _

theorem Try.info115 : (Try.prog.info? 115).map (fun i => (i.zero, i.size, i.bytes)) = some (some (.agg #[.string ⟨#[]⟩, .int .i64 0]), 2, 24) := by kernel_rfl

theorem run_make_pd (n : Nat) (hn : n ≤ 1048576) (w : World) :
    (Instr.makeSlice 49 (.int .i64 (n : Int)) (.int .i64 (n : Int))).run Try.prog w = .ok (.slice (some ⟨w.heap.size, 0, none⟩) n n) (w.alloc (.cells (madeCells (Value.agg #[.string ⟨#[]⟩, .int .i64 0]).cells (n * 2)) 115)) := by
  obtain ⟨i, hi, hzz⟩ := Option.map_eq_some_iff.1 Try.info115
  simp only [Prod.mk.injEq] at hzz
  obtain ⟨hz, hs, hb⟩ := hzz
  have hr := run_make (P := Try.prog) w 49 115 i _ Try.underlying49 hi hz .i64 .i64 n n (by omega) (Int.le_refl _) (by rw [hb]; omega) (by omega)
  simp only [Int.toNat_natCast, hs] at hr
  exact hr

set_option maxHeartbeats 1000000 in
set_option maxRecDepth 100000 in
theorem to_preds (L : List Pd) (W : World) (a : Option Addr) (cap : Nat) (ht : pft L ≤ 1048576) (hs : PSl W W.heap.size a cap L) :
    Calls Try.prog 31 #[.slice a L.length cap] W fun e W' => e = .returned (.slice (some ⟨W.heap.size, 0, none⟩) L.length L.length) ∧ Below W.heap.size W W' ∧ PRow W' L W.heap.size 0 ∧ W.heap.size < W'.heap.size ∧ Room W' W.heap.size (L.length * 2) := by
  unfold pft at ht
  have hmk := run_make_pd L.length (by omega)
  go_enter Try.func31, Try.ntmps31
  go_wp2_with fail
  clear hmk
  obtain ⟨W0, hW0⟩ : ∃ W0, W.alloc (.cells (madeCells #[.string ⟨#[]⟩, .int .i64 0] (L.length * 2)) 115) = W0 := ⟨_, rfl⟩
  have hR0 : Room W0 W.heap.size (L.length * 2) := by
    rw [← hW0]
    have := Room.made W (madeCells #[.string ⟨#[]⟩, .int .i64 0] (L.length * 2)) 115
    rwa [size_madeCells] at this
  have hB0 : Below W.heap.size W W0 := by rw [← hW0]; exact below_alloc1 _ _
  have hz0 : W0.heap.size = W.heap.size + 1 := by rw [← hW0]; simp
  rw [hW0]
  clear hW0
  go_loopw [4] (fun s4 wr => ∃ (i : Nat), s4 = .int .i64 i ∧ i ≤ L.length ∧ PRow wr (L.take i) W.heap.size 0 ∧ Room wr W.heap.size (L.length * 2) ∧ Below W.heap.size W wr ∧ W.heap.size + 1 ≤ wr.heap.size) (fun s4 _ => L.length - (intOf s4).toNat)
  case atStart => exact ⟨0, rfl, by omega, fun j x h => by simp at h, hR0, hB0, by omega⟩
  case round =>
    obtain ⟨i, rfl, hi, hrow, hR, bel, hz⟩ := hrel
    by_cases hl : i < L.length
    · obtain ⟨x, hx⟩ : ∃ x, L[i]? = some x := ⟨L[i], by simp [hl]⟩
      obtain ⟨b, o, rfl, hb, hrw⟩ := hs.row (by omega)
      obtain ⟨c1, c2⟩ := (hrw.below bel hb) i x hx
      have hl' : (i : Int) < L.length := by omega
      have HT := hide (to_pred x wr)
      unfold pv at HT
      go_wp2_with fail
      refine HT.out.mono ?_
      rintro e w1 ⟨rfl, b1⟩
      obtain ⟨⟨v0, a0⟩, f0⟩ := (hR.below b1 (by omega)) (i * 2) (by omega)
      obtain ⟨⟨v1, a1⟩, f1⟩ := (hR.below b1 (by omega)) (i * 2 + 1) (by omega)
      go_wp2_with fail
      go_roundw
      case rel =>
        have hz1 := b1.size
        obtain ⟨w4, hw4⟩ : ∃ w4, (w1.setCell ⟨W.heap.size, i * 2, none⟩ (.string x.nm)).setCell ⟨W.heap.size, i * 2 + 1, none⟩ (.int .i64 x.sd) = w4 := ⟨_, rfl⟩
        have hk4 : Kept (fun c => c ≠ W.heap.size) w1 w4 := by
          rw [← hw4]
          refine (Kept.setCell _ _ _ _ ?_).trans (Kept.setCell _ _ _ _ ?_) <;> simp
        have hz4 : w4.heap.size = w1.heap.size := by rw [← hw4]; simp [World.setCell]
        have hR4 : Room w4 W.heap.size (L.length * 2) := by rw [← hw4]; exact ((hR.below b1 (by omega)).set _ _).set _ _
        have n0' : w4.cell? ⟨W.heap.size, i * 2, none⟩ = some (.string x.nm) := by
          rw [← hw4, World.cell?_setCell_other _ _ _ _ (by simp)]
          exact World.cell?_setCell_same' _ _ _ (by rw [a0]; rfl)
        have n1' : w4.cell? ⟨W.heap.size, i * 2 + 1, none⟩ = some (.int .i64 x.sd) := by
          rw [← hw4]
          exact World.cell?_setCell_same' _ _ _ (by rw [World.cell?_setCell_other _ _ _ _ (by simp), a1]; rfl)
        have hold : ∀ j, j < i * 2 → ∀ v, w1.cell? ⟨W.heap.size, j, none⟩ = some v → w4.cell? ⟨W.heap.size, j, none⟩ = some v := fun j hj v hv => by
          rw [← hw4, World.cell?_setCell_other _ _ _ _ (by simp), World.cell?_setCell_other _ _ _ _ (by simp)]
          exact hv
        rw [hw4]
        clear hw4
        refine ⟨i + 1, by go_num, by omega, ?_, hR4, ?_, by omega⟩
        · intro j y hy
          rw [List.getElem?_take] at hy
          split at hy
          · rename_i hj
            by_cases e : j = i
            · subst e
              rw [hx] at hy
              cases hy
              simp only [Nat.zero_add]
              exact ⟨n0', n1'⟩
            · obtain ⟨q1, q2⟩ := (hrow.below b1 (by omega)) j y (by rw [List.getElem?_take, if_pos (by omega)]; exact hy)
              simp only [Nat.zero_add] at q1 q2 ⊢
              exact ⟨hold _ (by omega) _ q1, hold _ (by omega) _ q2⟩
          · cases hy
        · exact (bel.trans (b1.mono (by omega))).trans (hk4.below (fun c hc => by show c ≠ _; omega) (by omega))
      case measure => simp [intOf]; omega
    · obtain rfl : i = L.length := by omega
      rw [List.take_length] at hrow
      go_wp2_with fail
      go_ret
      exact ⟨rfl, bel, hrow, by omega, hR⟩

set_option maxHeartbeats 1000000 in
set_option maxRecDepth 100000 in
theorem eq_pred (x : Pd) (W : World) : Calls Try.prog 71 #[pv x, pv x] W fun e W' => e = .returned (.bool true) ∧ Below W.heap.size W W' := by
  obtain ⟨nm, sd⟩ := x
  unfold pv
  go_enter Try.func71, Try.ntmps71
  go_wp2_with fail
  go_ret
  exact ⟨rfl, below_alloc2 _ _ _⟩

set_option maxHeartbeats 1000000 in
set_option maxRecDepth 100000 in
theorem eq_preds (L : List Pd) (W : World) (a b : Option Addr) (cap dap : Nat) (hs : PSl W W.heap.size a cap L) (ht : PSl W W.heap.size b dap L) :
    Calls Try.prog 35 #[.slice a L.length cap, .slice b L.length dap] W fun e W' => e = .returned (.bool true) ∧ Below W.heap.size W W' := by
  have hmx : L.length ≤ 9223372036854775807 := by have h2 := hs.len; have h3 := hs.cap; simp only [maxLen] at h3; omega
  go_enter Try.func35, Try.ntmps35
  go_wp2_with fail
  go_loopw [5] (fun s5 wr => ∃ i : Nat, s5 = .int .i64 i ∧ i ≤ L.length ∧ Below W.heap.size W wr) (fun s5 _ => L.length - (intOf s5).toNat)
  case atStart => exact ⟨0, rfl, by omega, Below.refl _ _⟩
  case round =>
    obtain ⟨i, rfl, hi, bel⟩ := hrel
    by_cases hl : i < L.length
    · obtain ⟨x, hx⟩ : ∃ x, L[i]? = some x := ⟨L[i], by simp [hl]⟩
      obtain ⟨b1, o1, rfl, hb1, hr1⟩ := hs.row (by omega)
      obtain ⟨b2, o2, rfl, hb2, hr2⟩ := ht.row (by omega)
      obtain ⟨c1, c2⟩ := (hr1.below bel hb1) i x hx
      obtain ⟨d1, d2⟩ := (hr2.below bel hb2) i x hx
      have hl' : (i : Int) < L.length := by omega
      have hd : Below wr.heap.size wr wr.drew := (Below.refl _ _).drew
      have HE := hide (eq_pred x wr.drew)
      unfold pv at HE
      go_wp2_with fail
      go_region_held3 (fun w => w.cell? ⟨b1, o1 + i * 2, none⟩ = some (.string x.nm) ∧ w.cell? ⟨b1, o1 + i * 2 + 1, none⟩ = some (.int .i64 x.sd) ∧
          w.cell? ⟨b2, o2 + i * 2, none⟩ = some (.string x.nm) ∧ w.cell? ⟨b2, o2 + i * 2 + 1, none⟩ = some (.int .i64 x.sd))
        (first | exact ⟨c1, c2, d1, d2⟩ | exact k1)
        (first | (go_at_call 71; refine HE.out.mono ?_; rintro e w1 ⟨rfl, f1⟩; have g1 := bel.trans (hd.mono bel.size); have g2 := g1.trans (f1.mono bel.size); have k1 := And.intro ((hr1.below g2 hb1) i x hx) ((hr2.below g2 hb2) i x hx); simp only [and_assoc] at k1))
      all_goals
        go_wp2_with fail
        go_roundw
        case rel => exact ⟨i + 1, by go_num, by omega, g2⟩
        case measure => simp [intOf]; omega
    · obtain rfl : i = L.length := by omega
      go_wp2_with fail
      go_ret
      exact ⟨rfl, bel⟩

end Go.Proofs.Ytcnbnhoeobdbnaa
