import Derived.Test.YtpcnmolncoaddaaQS
namespace Go.Proofs.Ytpcnmolncoaddaa
open Go.RowKit Go.Joins

set_option maxHeartbeats 8000000 in
set_option maxRecDepth 100000 in
theorem lawMul_core (m m' : Bool) (v v' : Value) (n n' : Nat) (f f' : Nat → Nat) (w : World) (hL : Lim w v n f) (hL' : Lim w v' n' f') (code : Int) (mn : Bool) (K : Nat) (D : Nat → Nat) (hK : K ≤ 40)
    (HS : Hid (∀ (v v' : Value) (w : World), Lim w v n f → Lim w v' n' f' → Calls Try.prog 47 #[.agg #[.bool m, v], .agg #[.bool m', v']] w fun e w' => ∃ u, e = .returned (.agg #[.int .i64 code, .bool mn, u]) ∧ Own w.heap.size w' u K D ∧ Below w.heap.size w w'))
    (HI : Hid (∀ (v v' : Value) (w : World), Lim w v n f → Lim w v' n' f' → Calls Try.prog 21 #[.agg #[.bool m, v], .agg #[.bool m', v']] w fun e w' => ∃ u, e = .returned (.agg #[.int .i64 code, .bool mn, u]) ∧ Own w.heap.size w' u K D ∧ Below w.heap.size w w')) :
    Calls Try.prog 14 #[.agg #[.bool m, v], .agg #[.bool m', v']] w fun e w' => e = .returned (.bool true) ∧ Below w.heap.size w w' := by
  obtain ⟨a, c, rfl, k1, k2, -⟩ := id hL
  obtain ⟨a', c', rfl, k1', k2', -⟩ := id hL'
  unfold maxLen at k2 k2'
  by_cases hn : 1048576 < n
  · go_enter Try.func14, Try.ntmps14
    go_wp2_with fail
    refine (szBig_any m a n c 1048576 _ (by omega) (by omega) (by omega)).mono ?_
    rintro e w1 ⟨rfl, hb1⟩
    rw [if_pos (by omega)]
    have h1 := (Box2.start w _ _ _ _ _ _).next hb1
    clear hb1
    go_wp2_with fail
    go_ret
    exact ⟨rfl, h1.bel⟩
  by_cases hn' : 1048576 - (n : Int) < n'
  · go_enter Try.func14, Try.ntmps14
    go_wp2_with fail
    refine (szBig_any m a n c 1048576 _ (by omega) (by omega) (by omega)).mono ?_
    rintro e w1 ⟨rfl, hb1⟩
    rw [if_neg (by omega)]
    have h1 := (Box2.start w _ _ _ _ _ _).next hb1
    obtain ⟨a0, a1, b0, b1, hz, bel⟩ := id h1
    clear hb1
    go_wp2_with fail
    refine (szBig_any m' a' n' c' _ _ (by omega) (by omega) (by omega)).mono ?_
    rintro e w2 ⟨rfl, hb2⟩
    rw [if_pos (by omega)]
    have h2 := h1.next hb2
    clear hb2
    go_wp2_with fail
    go_ret
    exact ⟨rfl, h2.bel⟩
  go_enter Try.func14, Try.ntmps14
  go_wp2_with fail
  refine (szBig_any m a n c 1048576 _ (by omega) (by omega) (by omega)).mono ?_
  rintro e w1 ⟨rfl, hb1⟩
  rw [if_neg (by omega)]
  have h1 := (Box2.start w _ _ _ _ _ _).next hb1
  obtain ⟨a0, a1, b0, b1, hz, bel⟩ := id h1
  clear hb1
  go_wp2_with fail
  refine (szBig_any m' a' n' c' _ _ (by omega) (by omega) (by omega)).mono ?_
  rintro e w2 ⟨rfl, hb2⟩
  rw [if_neg (by omega)]
  have h2 := h1.next hb2
  have hz2 := h2.z
  clear hb2 a0 a1 b0 b1 hz bel h1
  go_upto_region 8 with fail
  go_cut [6] (fun s6 wx => ∃ (b6 : Nat) (v6 : Value), s6 = .pointer (some ⟨b6, 0, none⟩) ∧ At3 wx b6 (.int .i64 code) (.bool mn) v6 ∧ Lim wx v6 K D ∧ In 0 wx.heap.size v6 K ∧ Box2 w wx (.bool m) (.slice a n c) (.bool m') (.slice a' n' c') ∧ Below w2.heap.size w2 wx)
  case first =>
    go_region_held3 (fun w' => (w'.cell? ⟨w.heap.size, 0, none⟩ = some (.bool m) ∧ w'.cell? ⟨w.heap.size, 1, none⟩ = some (.slice a n c) ∧ w'.cell? ⟨w.heap.size + 1, 0, none⟩ = some (.bool m') ∧ w'.cell? ⟨w.heap.size + 1, 1, none⟩ = some (.slice a' n' c')) ∧ RS w w2 w' (.bool m) (.slice a n c) (.bool m') (.slice a' n' c')) (first | exact RS.start h2 | exact fs5 | exact fs4 | exact fs3 | exact RS.via (below_alloc1 _ _) (RS.start h2) | exact RS.via (below_alloc1 _ _) fs3 | exact RS.via (below_alloc1 _ _) fs4 | exact RS.via (below_alloc1 _ _) fs5 | exact RS.set3 fs5 _ _ _ _ (by first | omega | exact Nat.le_refl _)) (first
      | (go_at_call_of 33 (Value.slice a n c); refine (toBig_any m _ n f _ ?_ ?_).mono ?_; exact hL.below (RS.wbel (by assumption)); omega; rintro e w3 ⟨v3, rfl, ho3, hb3⟩; have fs3 := RS.via hb3 (by assumption); have y3 := fs3.2.bel.size; have z3 := hb3.size; (try simp only [World.size_alloc] at z3); (try (have hr3 := Res3.next (by first | exact Res3.start _ _ _ _ _ | exact Res3.drew (Res3.start _ _ _ _ _) | assumption) hb3; (try simp only [heap_drew] at hr3); obtain ⟨c0, c1, c2, f0, f1, f2, lt3⟩ := id hr3)))
      | (go_at_call_of 33 (Value.slice a' n' c'); refine (toBig_any m' _ n' f' _ ?_ ?_).mono ?_; exact hL'.below (RS.wbel (by assumption)); omega; rintro e w4 ⟨v4, rfl, ho4, hb4⟩; have fs4 := RS.via hb4 (by assumption); have y4 := fs4.2.bel.size; have z4 := hb4.size; (try simp only [World.size_alloc] at z4); have l3 := Lim.below (by first | exact ho3.lim | exact ho3.lim.below (below_alloc1 _ _)) hb4; (try (have hr3 := Res3.next (by first | exact Res3.start _ _ _ _ _ | exact Res3.drew (Res3.start _ _ _ _ _) | assumption) hb4; (try simp only [heap_drew] at hr3); obtain ⟨c0, c1, c2, f0, f1, f2, lt3⟩ := id hr3)))
      | (go_at_call 47; refine (HS.out _ _ _ ?_ ?_).mono ?_; (first | exact l3 | exact l3.below (below_alloc1 _ _)); (first | exact ho4.lim | exact ho4.lim.below (below_alloc1 _ _)); rintro e w5 ⟨v5, rfl, ho5, hb5⟩; have fs5 := RS.via hb5 (by assumption); have y5 := fs5.2.bel.size; have z5 := hb5.size; (try simp only [World.size_alloc] at z5); obtain ⟨a5, c5, rfl, -⟩ := id ho5; (try (have hr3 := Res3.next (by first | exact Res3.start _ _ _ _ _ | exact Res3.drew (Res3.start _ _ _ _ _) | assumption) hb5; (try simp only [heap_drew] at hr3); obtain ⟨c0, c1, c2, f0, f1, f2, lt3⟩ := id hr3))))
    all_goals
      go_wp2_with fail
      go_meet
      case rel =>
        have hfs : FS w w2 w5 (.bool m) (.slice a n c) (.bool m') (.slice a' n' c') := fs5
        have hin := ho5.inn
        have zz := hfs.2.bel.size
        try simp only [World.size_alloc] at hin
        first
        | exact ⟨_, _, rfl, At3.start _ _ _ _ _, ho5.lim.below (below_alloc1 _ _), fun b hn hb => ⟨Nat.zero_le _, by have := (hin b hn hb).2; simp only [World.size_alloc]; omega⟩, (RS.via (below_alloc1 _ _) hfs).2.box, (RS.via (below_alloc1 _ _) hfs).2.bel⟩
        | exact ⟨_, _, rfl, At3.set3 (by assumption) _ _ _, ho5.lim.set3 _ _ _ (fun hn hb => by have := (hin _ hn hb).1; omega), fun b hn hb => ⟨Nat.zero_le _, by have := (hin b hn hb).2; simpa using this⟩, (RS.set3 hfs _ _ _ _ (by first | omega | exact Nat.le_refl _)).2.box, (RS.set3 hfs _ _ _ _ (by first | omega | exact Nat.le_refl _)).2.bel⟩
  case rest =>
    obtain ⟨b6, v6, rfl, r6, l6, i6, h6, -⟩ := hcut
    obtain ⟨a6, c6, rfl, -⟩ := id l6
    have hz6 := h6.z
    have lt6 := r6.lt
    clear h2 HS hz2
    obtain ⟨a0, a1, b0, b1, hz, bel⟩ := id h6
    go_wp2_with fail
    refine (toBig_any m _ n f _ (hL.below bel) (by omega)).mono ?_
    rintro e w7 ⟨v7, rfl, o7, hb7⟩
    obtain ⟨a7, c7, rfl, -⟩ := id o7
    have z7 := hb7.size
    have i7 := o7.inn
    have hb7' := hb7.trans ((below_alloc1 w7 (.cells #[.bool m, .slice a7 n c7] 25)).mono z7)
    have h7 := h6.next hb7'
    replace r6 := r6.next hb7'
    replace l6 := l6.below hb7'
    replace o7 := o7.below (below_alloc1 w7 (.cells #[.bool m, .slice a7 n c7] 25))
    have x7 := At2.start w7 (.bool m) (.slice a7 n c7) 25
    clear a0 a1 b0 b1 hz bel hb7 hb7' h6
    obtain ⟨a0, a1, b0, b1, hz, bel⟩ := id h7
    go_wp2_with fail
    refine (toBig_any m' _ n' f' _ (hL'.below bel) (by omega)).mono ?_
    rintro e w8 ⟨v8, rfl, o8, hb8⟩
    obtain ⟨a8, c8, rfl, -⟩ := id o8
    have z8 := hb8.size
    simp only [World.size_alloc] at z8 o8
    have i8 := o8.inn
    have hb8' := hb8.trans ((below_alloc1 w8 (.cells #[.bool m', .slice a8 n' c8] 25)).mono (by simp; omega))
    have h8 := h7.next hb8'
    replace r6 := r6.next hb8'
    replace l6 := l6.below hb8'
    replace o7 := o7.below hb8'
    replace x7 := x7.next hb8'
    replace o8 := o8.below (below_alloc1 w8 (.cells #[.bool m', .slice a8 n' c8] 25))
    have x8 := At2.start w8 (.bool m') (.slice a8 n' c8) 25
    clear a0 a1 b0 b1 hz bel hb8 hb8' h7
    obtain ⟨p0, p1, pz⟩ := id x7
    obtain ⟨q0, q1, qz⟩ := id x8
    go_wp2_with fail
    refine (HI.out _ _ _ o7.lim o8.lim).mono ?_
    rintro e w9 ⟨v9, rfl, o9, hb9⟩
    obtain ⟨a9, c9, rfl, -⟩ := id o9
    have z9 := hb9.size
    simp only [World.size_alloc] at z9 o9
    have i9 := o9.inn
    have hb9' := hb9.trans ((below_alloc1 w9 (.cells #[.int .i64 code, .bool mn, .slice a9 K c9] 28)).mono (by simp; omega))
    have h9 := h8.next hb9'
    replace r6 := r6.next hb9'
    replace l6 := l6.below hb9'
    replace o7 := o7.below hb9'
    replace x7 := x7.next hb9'
    replace o8 := o8.below hb9'
    replace x8 := x8.next hb9'
    replace o9 := o9.below (below_alloc1 w9 (.cells #[.int .i64 code, .bool mn, .slice a9 K c9] 28))
    have r9 := At3.start w9 (.int .i64 code) (.bool mn) (.slice a9 K c9) 28
    clear p0 p1 pz q0 q1 qz hb9 hb9' h8
    obtain ⟨p0, p1, p2, pz⟩ := id r6
    obtain ⟨q0, q1, q2, qz⟩ := id r9
    go_wp2_with fail
    refine (eqRes_any code mn _ _ K D D _ o9.lim l6 (by omega) (fun _ _ => rfl)).mono ?_
    rintro e w10 ⟨rfl, hb10⟩
    have z10 := hb10.size
    simp only [World.size_alloc] at z10
    have h10 := h9.next hb10
    replace r6 := r6.next hb10
    replace l6 := l6.below hb10
    replace o7 := o7.below hb10
    replace x7 := x7.next hb10
    replace o8 := o8.below hb10
    replace x8 := x8.next hb10
    replace o9 := o9.below hb10
    replace r9 := r9.next hb10
    clear p0 p1 p2 pz q0 q1 q2 qz hb10 h9
    go_upto_region 14 with fail
    go_cut [44] (fun s44 wx => s44 = .bool false ∧ Below w10.heap.size w10 wx)
    case first =>
      have hax := h10.atA
      go_region_held3 (fun w' => (w'.cell? ⟨w7.heap.size, 0, none⟩ = some (.bool m) ∧ w'.cell? ⟨w7.heap.size, 1, none⟩ = some (.slice a7 n c7) ∧ w'.cell? ⟨w.heap.size, 0, none⟩ = some (.bool m) ∧ w'.cell? ⟨w.heap.size, 1, none⟩ = some (.slice a n c)) ∧ Below w10.heap.size w10 w') (first | exact QS.of x7 hax (below_drew0 _) | exact QS.of x7 hax e3 | exact QS.of x7 hax e4) (first
        | (go_at_call 33; refine (toBig_any m _ n f _ ?_ ?_).mono ?_; exact hL.below h10.bel.drew; omega; rintro e w11 ⟨v11, rfl, o11, hb11⟩; have e3 := (below_drew0 w10).trans hb11)
        | (go_at_call 34; refine (eqBig_any m _ _ n f f _ (o7.lim.below e3) o11.lim ?_ ?_).mono ?_; omega; intro i hi; rfl; rintro e w12 ⟨rfl, hb12⟩; have e4 := e3.trans (hb12.mono e3.size)))
      all_goals
        go_wp2_with fail
        go_meet
        case rel => exact ⟨rfl, e4⟩
    case rest =>
    obtain ⟨rfl, hb11⟩ := hcut
    have z11 := hb11.size
    have h11 := h10.next hb11
    replace r6 := r6.next hb11
    replace l6 := l6.below hb11
    replace o7 := o7.below hb11
    replace x7 := x7.next hb11
    replace o8 := o8.below hb11
    replace x8 := x8.next hb11
    replace o9 := o9.below hb11
    replace r9 := r9.next hb11
    clear hb11 h10
    rename World => w11
    go_upto_region 16 with fail
    go_cut [49] (fun s49 wx => s49 = .bool false ∧ Below w11.heap.size w11 wx)
    case first =>
      have hax := h11.atB
      go_region_held3 (fun w' => (w'.cell? ⟨w8.heap.size, 0, none⟩ = some (.bool m') ∧ w'.cell? ⟨w8.heap.size, 1, none⟩ = some (.slice a8 n' c8) ∧ w'.cell? ⟨w.heap.size + 1, 0, none⟩ = some (.bool m') ∧ w'.cell? ⟨w.heap.size + 1, 1, none⟩ = some (.slice a' n' c')) ∧ Below w11.heap.size w11 w') (first | exact QS.of x8 hax (below_drew0 _) | exact QS.of x8 hax e3 | exact QS.of x8 hax e4) (first
        | (go_at_call 33; refine (toBig_any m' _ n' f' _ ?_ ?_).mono ?_; exact hL'.below h11.bel.drew; omega; rintro e w21 ⟨v21, rfl, o21, hb21⟩; have e3 := (below_drew0 w11).trans hb21)
        | (go_at_call 34; refine (eqBig_any m' _ _ n' f' f' _ (o8.lim.below e3) o21.lim ?_ ?_).mono ?_; omega; intro i hi; rfl; rintro e w22 ⟨rfl, hb22⟩; have e4 := e3.trans (hb22.mono e3.size)))
      all_goals
        go_wp2_with fail
        go_meet
        case rel => exact ⟨rfl, e4⟩
    case rest =>
    obtain ⟨rfl, hb12⟩ := hcut
    have z12 := hb12.size
    have h12 := h11.next hb12
    replace r6 := r6.next hb12
    replace x7 := x7.next hb12
    replace x8 := x8.next hb12
    replace r9 := r9.next hb12
    replace l6 := l6.below hb12
    replace o7 := o7.below hb12
    replace o8 := o8.below hb12
    replace o9 := o9.below hb12
    clear hb12 h11
    rename World => w12
    obtain ⟨Z7, hZ7⟩ : ∃ Z : Int, Z = ((1 + n : Nat) : Int) := ⟨_, rfl⟩
    obtain ⟨Z8, hZ8⟩ : ∃ Z : Int, Z = ((1 + n + n' : Nat) : Int) := ⟨_, rfl⟩
    obtain ⟨M, hM⟩ : ∃ Z : Int, Z = ((1 + K : Nat) : Int) := ⟨_, rfl⟩
    have Z80 : 0 ≤ Z8 := by omega
    have M0 : 0 ≤ M := by omega
    have HZ7 := hide hZ7
    have HZ8 := hide hZ8
    have HM := hide hM
    have d8 : decide (Z8 < 0) = false := by simp; omega
    have dM : decide (M < 0) = false := by simp; omega
    clear hZ7 hZ8 hM
    obtain ⟨p0, p1, pz⟩ := id x7
    go_wp2_with fail
    refine (markZ m 1 Z7 1 rfl HZ7.out o7 (by omega) (by omega)).mono ?_
    rintro e w13 ⟨rfl, -, hb13, hk13⟩
    have z13 := hb13.size
    have g13 := fun x (hx : x < w12.heap.size) (ho : x < wc.heap.size ∨ w7.heap.size ≤ x) => keptOut i7 hk13 x hx ho
    have h13 := h12.keep wc.heap.size hb13 hz6
    replace r6 := r6.keep (g13 _ (by omega) (by omega)) z13
    replace l6 := l6.keepIn i6 (fun b _ hb => g13 b (by omega) (by omega))
    replace x8 := x8.keep (g13 _ (by omega) (by omega)) z13
    replace o8 := o8.keepIn i8 (fun b _ hb => g13 b (by omega) (by omega))
    replace r9 := r9.keep (g13 _ (by omega) (by omega)) z13
    replace o9 := o9.keepIn i9 (fun b _ hb => g13 b (by omega) (by omega))
    clear p0 p1 pz hb13 hk13 g13 h12 o7 x7
    obtain ⟨p0, p1, pz⟩ := id x8
    go_wp2_with fail
    refine (markZ m' Z7 Z8 (1 + n) HZ7.out HZ8.out o8 (by omega) (by omega)).mono ?_
    rintro e w14 ⟨rfl, -, hb14, hk14⟩
    have z14 := hb14.size
    have g14 := fun x (hx : x < w13.heap.size) (ho : x < w7.heap.size + 1 ∨ w8.heap.size ≤ x) => keptOut i8 hk14 x hx ho
    have h14 := h13.keep (w7.heap.size + 1) hb14 (by omega)
    replace r6 := r6.keep (g14 _ (by omega) (by omega)) z14
    replace l6 := l6.keepIn i6 (fun b _ hb => g14 b (by omega) (by omega))
    replace r9 := r9.keep (g14 _ (by omega) (by omega)) z14
    replace o9 := o9.keepIn i9 (fun b _ hb => g14 b (by omega) (by omega))
    clear p0 p1 pz hb14 hk14 g14 h13 o8 x8
    obtain ⟨p0, p1, p2, pz⟩ := id r6
    obtain ⟨q0, q1, q2, qz⟩ := id r9
    go_wp2_with fail
    refine (eqRes_any code mn _ _ K D D _ o9.lim l6 (by omega) (fun _ _ => rfl)).mono ?_
    rintro e w15 ⟨rfl, hb15⟩
    have z15 := hb15.size
    have h15 := h14.next hb15
    replace r6 := r6.next hb15
    replace r9 := r9.next hb15
    replace l6 := l6.below hb15
    replace o9 := o9.below hb15
    clear p0 p1 p2 pz q0 q1 q2 qz hb15 h14
    obtain ⟨q0, q1, q2, qz⟩ := id r9
    go_wp2_with fail
    refine (markRes_any code mn M HM o9 (by omega) (by omega)).mono ?_
    rintro e w16 ⟨rfl, o9', hb16, hk16⟩
    have z16 := hb16.size
    have g16 := fun x (hx : x < w15.heap.size) (ho : x < w8.heap.size + 1 ∨ w9.heap.size ≤ x) => keptOut i9 hk16 x hx ho
    have h16 := h15.keep (w8.heap.size + 1) hb16 (by omega)
    replace r6 := r6.keep (g16 _ (by omega) (by omega)) z16
    replace l6 := l6.keepIn i6 (fun b _ hb => g16 b (by omega) (by omega))
    replace r9 := r9.keep (g16 _ (by omega) (by omega)) z16
    have m9 := o9'.lim
    clear q0 q1 q2 qz hb16 hk16 g16 h15 o9 o9'
    obtain ⟨q0, q1, q2, qz⟩ := id r9
    go_wp2_with fail
    refine (heldRes_any code mn M HM M0 m9 (by omega)).mono ?_
    rintro e w17 ⟨rfl, hb17⟩
    have z17 := hb17.size
    have h17 := h16.next hb17
    replace r6 := r6.next hb17
    replace r9 := r9.next hb17
    replace l6 := l6.below hb17
    replace m9 := m9.below hb17
    clear q0 q1 q2 qz hb17 h16
    have hz17 := h17.z
    go_upto_region 31 with fail
    go_cut [13] (fun s13 wx => ∃ (b6 : Nat) (v6 : Value), s13 = .pointer (some ⟨b6, 0, none⟩) ∧ At3 wx b6 (.int .i64 code) (.bool mn) v6 ∧ Lim wx v6 K D ∧ In 0 wx.heap.size v6 K ∧ Box2 w wx (.bool m) (.slice a n c) (.bool m') (.slice a' n' c') ∧ Below w17.heap.size w17 wx)
    case first =>
      go_region_held3 (fun w' => (w'.cell? ⟨w.heap.size, 0, none⟩ = some (.bool m) ∧ w'.cell? ⟨w.heap.size, 1, none⟩ = some (.slice a n c) ∧ w'.cell? ⟨w.heap.size + 1, 0, none⟩ = some (.bool m') ∧ w'.cell? ⟨w.heap.size + 1, 1, none⟩ = some (.slice a' n' c')) ∧ RS w w17 w' (.bool m) (.slice a n c) (.bool m') (.slice a' n' c')) (first | exact RS.start h17 | exact fs5x | exact fs4x | exact fs3x | exact RS.via (below_alloc1 _ _) (RS.start h17) | exact RS.via (below_alloc1 _ _) fs3x | exact RS.via (below_alloc1 _ _) fs4x | exact RS.via (below_alloc1 _ _) fs5x | exact RS.set3 fs5x _ _ _ _ (by first | omega | exact Nat.le_refl _)) (first
        | (go_at_call_of 33 (Value.slice a n c); refine (toBig_any m _ n f _ ?_ ?_).mono ?_; exact hL.below (RS.wbel (by assumption)); omega; rintro e w3x ⟨v3x, rfl, ho3x, hb3x⟩; have fs3x := RS.via hb3x (by assumption); have y3x := fs3x.2.bel.size; have z3x := hb3x.size; (try simp only [World.size_alloc] at z3x); (try (have hr3x := Res3.next (by first | exact Res3.start _ _ _ _ _ | exact Res3.drew (Res3.start _ _ _ _ _) | assumption) hb3x; (try simp only [heap_drew] at hr3x); obtain ⟨c0, c1, c2, f0, f1, f2, lt3⟩ := id hr3x)))
        | (go_at_call_of 33 (Value.slice a' n' c'); refine (toBig_any m' _ n' f' _ ?_ ?_).mono ?_; exact hL'.below (RS.wbel (by assumption)); omega; rintro e w4x ⟨v4x, rfl, ho4x, hb4x⟩; have fs4x := RS.via hb4x (by assumption); have y4x := fs4x.2.bel.size; have z4x := hb4x.size; (try simp only [World.size_alloc] at z4x); have l3x := Lim.below (by first | exact ho3x.lim | exact ho3x.lim.below (below_alloc1 _ _)) hb4x; (try (have hr3x := Res3.next (by first | exact Res3.start _ _ _ _ _ | exact Res3.drew (Res3.start _ _ _ _ _) | assumption) hb4x; (try simp only [heap_drew] at hr3x); obtain ⟨c0, c1, c2, f0, f1, f2, lt3⟩ := id hr3x)))
        | (go_at_call 21; refine (HI.out _ _ _ ?_ ?_).mono ?_; (first | exact l3x | exact l3x.below (below_alloc1 _ _)); (first | exact ho4x.lim | exact ho4x.lim.below (below_alloc1 _ _)); rintro e w5x ⟨v5x, rfl, ho5x, hb5x⟩; have fs5x := RS.via hb5x (by assumption); have y5x := fs5x.2.bel.size; have z5x := hb5x.size; (try simp only [World.size_alloc] at z5x); obtain ⟨a5x, c5x, rfl, -⟩ := id ho5x; (try (have hr3x := Res3.next (by first | exact Res3.start _ _ _ _ _ | exact Res3.drew (Res3.start _ _ _ _ _) | assumption) hb5x; (try simp only [heap_drew] at hr3x); obtain ⟨c0, c1, c2, f0, f1, f2, lt3⟩ := id hr3x))))
      all_goals
        go_wp2_with fail
        go_meet
        case rel =>
          have hfs : FS w w17 w5x (.bool m) (.slice a n c) (.bool m') (.slice a' n' c') := fs5x
          have hin := ho5x.inn
          have zz := hfs.2.bel.size
          try simp only [World.size_alloc] at hin
          first
          | exact ⟨_, _, rfl, At3.start _ _ _ _ _, ho5x.lim.below (below_alloc1 _ _), fun b hn hb => ⟨Nat.zero_le _, by have := (hin b hn hb).2; simp only [World.size_alloc]; omega⟩, (RS.via (below_alloc1 _ _) hfs).2.box, (RS.via (below_alloc1 _ _) hfs).2.bel⟩
          | exact ⟨_, _, rfl, At3.set3 (by assumption) _ _ _, ho5x.lim.set3 _ _ _ (fun hn hb => by have := (hin _ hn hb).1; omega), fun b hn hb => ⟨Nat.zero_le _, by have := (hin b hn hb).2; simpa using this⟩, (RS.set3 hfs _ _ _ _ (by first | omega | exact Nat.le_refl _)).2.box, (RS.set3 hfs _ _ _ _ (by first | omega | exact Nat.le_refl _)).2.bel⟩

    case rest =>
    obtain ⟨b13, v13, rfl, r13, l13, -, h18, hb18⟩ := hcut
    obtain ⟨a13, c13, rfl, -⟩ := id l13
    have z18 := hb18.size
    replace r6 := r6.next hb18
    replace r9 := r9.next hb18
    replace l6 := l6.below hb18
    replace m9 := m9.below hb18
    clear hb18 h17 HI
    obtain ⟨p0, p1, p2, pz⟩ := id r6
    obtain ⟨q0, q1, q2, qz⟩ := id r13
    go_wp2_with fail
    refine (eqRes_any code mn _ _ K D D _ l13 l6 (by omega) (fun _ _ => rfl)).mono ?_
    rintro e w19 ⟨rfl, hb19⟩
    have h19 := h18.next hb19
    replace r9 := r9.next hb19
    replace m9 := m9.below hb19
    clear p0 p1 p2 pz q0 q1 q2 qz hb19 h18 r6 r13
    obtain ⟨q0, q1, q2, qz⟩ := id r9
    go_wp2_with fail
    refine (heldRes_any code mn M HM M0 m9 (by omega)).mono ?_
    rintro e w20 ⟨rfl, hb20⟩
    have h20 := h19.next hb20
    clear q0 q1 q2 qz
    go_wp2_with fail
    go_ret
    exact ⟨rfl, h20.bel⟩

end Go.Proofs.Ytpcnmolncoaddaa
