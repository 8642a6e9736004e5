import Derived.Test.YtjfoagmenehapaaSSame
import Derived.Test.YtjfoagmenehapaaEq
import Derived.Test.YtjfoagmenehapaaISame
import Derived.Deep.DeepCutAuto
namespace Go.Proofs.Ytjfoagmenehapaa
open Go.RowKit Go.Joins

theorem two_boxes {w6 w : World} {b c : Nat} {x0 x1 x2 y0 y1 y2 : Value} (q1 : Box3 w6 b x0 x1 x2) (q5 : Box3 w6 c y0 y1 y2) (h : Below w6.heap.size w6.drew w) :
    w.cell? ⟨b, 0, none⟩ = some x0 ∧ w.cell? ⟨b, 1, none⟩ = some x1 ∧ w.cell? ⟨b, 2, none⟩ = some x2 ∧ w.cell? ⟨c, 0, none⟩ = some y0 ∧ w.cell? ⟨c, 1, none⟩ = some y1 ∧ w.cell? ⟨c, 2, none⟩ = some y2 :=
  have h' : Below w6.heap.size w6 w := (Below.refl _ _).drew.trans h
  have r1 := q1.below h' q1.lt
  have r5 := q5.below h' q5.lt
  ⟨r1.c0, r1.c1, r1.c2, r5.c0, r5.c1, r5.c2⟩

theorem same_sim : ∀ {F F' G G' : Fo}, F.sim F' → G.sim G' → F.same G = F'.same G'
  | .nil, .nil, .nil, .nil, _, _ => rfl
  | .cons _ _ _ _ _ _, .cons _ _ _ _ _ _, .cons _ _ _ _ _ _, .cons _ _ _ _ _ _, ⟨a, b, c, d⟩, ⟨a', b', c', d'⟩ => by subst a b a' b'; simp only [Fo.same, same_sim c c', same_sim d d']
  | .nil, .nil, .cons _ _ _ _ _ _, .cons _ _ _ _ _ _, _, _ => rfl
  | .cons _ _ _ _ _ _, .cons _ _ _ _ _ _, .nil, .nil, _, _ => rfl
  | .nil, .cons _ _ _ _ _ _, _, _, h, _ => h.elim
  | .cons _ _ _ _ _ _, .nil, _, _, h, _ => h.elim
  | _, _, .nil, .cons _ _ _ _ _ _, _, h => h.elim
  | _, _, .cons _ _ _ _ _ _, .nil, _, h => h.elim

theorem sameN_sim {k k' : Int} {nm nm' : ByteArray} {F F' G G' : Fo} (h : F.sim F') (h' : G.sim G') : sameN k nm F k' nm' G = sameN k nm F' k' nm' G' := by
  simp only [sameN, same_sim h h']

set_option maxHeartbeats 4000000 in
set_option maxRecDepth 100000 in
theorem lawSame (k : Int) (nm : ByteArray) (a : Option Addr) (cap : Nat) (ks : Fo) (k' : Int) (nm' : ByteArray) (a' : Option Addr) (cap' : Nat) (js : Fo) (W : World) (hnm : nm.size ≤ maxLen) (hs : ks.Sl W (fun b => b < W.heap.size) a cap)
    (hnm' : nm'.size ≤ maxLen) (ht : js.Sl W (fun b => b < W.heap.size) a' cap') :
    Calls Try.prog 4 #[nodeV k nm a ks.len cap, nodeV k' nm' a' js.len cap'] W fun e W' => e = .returned (.bool true) ∧ Below W.heap.size W W' := by
  have hsz := sz_row _ ks (Nat.le_refl _)
  have hsz' := sz_row _ js (Nat.le_refl _)
  have hto := to_row _ ks (Nat.lt_succ_self _)
  have hto' := to_row _ js (Nat.lt_succ_self _)
  unfold nodeV
  have q1 : Box3 ((W.alloc (.cells #[.int .i64 k, .string nm, .slice a ks.len cap] 24)).alloc (.cells #[.int .i64 k', .string nm', .slice a' js.len cap'] 24)) W.heap.size (.int .i64 k) (.string nm) (.slice a ks.len cap) := (Box3.new _ _ _ _ _).alloc _
  have q2 := Box3.new (W.alloc (.cells #[.int .i64 k, .string nm, .slice a ks.len cap] 24)) (.int .i64 k') (.string nm') (.slice a' js.len cap') 24
  rw [World.size_alloc] at q2
  have bA := below_alloc2 W (.cells #[.int .i64 k, .string nm, .slice a ks.len cap] 24) (.cells #[.int .i64 k', .string nm', .slice a' js.len cap'] 24)
  have zA : ((W.alloc (.cells #[.int .i64 k, .string nm, .slice a ks.len cap] 24)).alloc (.cells #[.int .i64 k', .string nm', .slice a' js.len cap'] 24)).heap.size = W.heap.size + 1 + 1 := by simp
  by_cases h : (1048576 : Int) < ((nm.size + ks.tot : Nat) : Int)
  · go_enter Try.func4, Try.ntmps4
    go_wp2_with fail
    refine (sz_node hsz k nm W.heap.size 1048576 _ a cap (by omega) (by omega) (by omega) hnm (hs.below bA (fun _ x => x))).mono ?_
    rintro e w1 ⟨rfl, b1⟩
    rw [szV_lt (by omega)]
    go_wp2_with fail
    go_ret
    exact ⟨rfl, bA.trans (b1.mono (by omega))⟩
  · have htk : ks.tot ≤ 1048576 := by omega
    have hsizek := ks.size_le
    by_cases h2 : (1048576 : Int) - ((nm.size + ks.tot : Nat) : Int) < ((nm'.size + js.tot : Nat) : Int)
    · go_enter Try.func4, Try.ntmps4
      go_wp2_with fail
      generalize (W.alloc (.cells #[.int .i64 k, .string nm, .slice a ks.len cap] 24)).alloc (.cells #[.int .i64 k', .string nm', .slice a' js.len cap'] 24) = A at q1 q2 bA zA ⊢
      refine (sz_node hsz k nm W.heap.size 1048576 A a cap (by omega) (by omega) (by omega) hnm (hs.below bA (fun _ x => x))).mono ?_
      rintro e w1 ⟨rfl, b1⟩
      rw [szV_ge (by omega)]
      have z1 := b1.size
      have B1 := bA.trans (b1.mono (by omega))
      obtain ⟨-, y0, y1, y2, -, -, -⟩ := q2.below b1 (by omega)
      go_wp2_with fail
      refine (sz_node hsz' k' nm' W.heap.size _ w1 a' cap' (by omega) (by omega) (by omega) hnm' (ht.below B1 (fun _ x => x))).mono ?_
      rintro e w2 ⟨rfl, b2⟩
      rw [szV_lt (by omega)]
      go_wp2_with fail
      go_ret
      exact ⟨rfl, B1.trans (b2.mono (by omega))⟩
    · have htj : js.tot ≤ 1048576 := by omega
      have hsizej := js.size_le
      go_enter Try.func4, Try.ntmps4
      go_wp2_with fail
      generalize (W.alloc (.cells #[.int .i64 k, .string nm, .slice a ks.len cap] 24)).alloc (.cells #[.int .i64 k', .string nm', .slice a' js.len cap'] 24) = A at q1 q2 bA zA ⊢
      refine (sz_node hsz k nm W.heap.size 1048576 A a cap (by omega) (by omega) (by omega) hnm (hs.below bA (fun _ x => x))).mono ?_
      rintro e w1 ⟨rfl, b1⟩
      rw [szV_ge (by omega)]
      have z1 := b1.size
      replace q1 := q1.below b1 (by omega)
      replace q2 := q2.below b1 (by omega)
      have B1 := bA.trans (b1.mono (by omega))
      clear b1 bA
      obtain ⟨-, x0, x1, x2, -, -, -⟩ := id q1
      obtain ⟨-, y0, y1, y2, -, -, -⟩ := id q2
      go_wp2_with fail
      refine (sz_node hsz' k' nm' W.heap.size _ w1 a' cap' (by omega) (by omega) (by omega) hnm' (ht.below B1 (fun _ x => x))).mono ?_
      rintro e w2 ⟨rfl, b2⟩
      rw [szV_ge (by omega)]
      have z2 := b2.size
      replace q1 := q1.below b2 (by omega)
      replace q2 := q2.below b2 (by omega)
      have B2 := B1.trans (b2.mono (by omega))
      clear b2 B1 x0 x1 x2 y0 y1 y2
      obtain ⟨-, x0, x1, x2, -, -, -⟩ := id q1
      obtain ⟨-, y0, y1, y2, -, -, -⟩ := id q2
      have hs2 := hs.below B2 (fun _ x => x)
      have ht2 := ht.below B2 (fun _ x => x)
      go_wp2_with fail
      have hd : Below w2.heap.size w2 w2.drew := (Below.refl _ _).drew
      have HA := to_node hto k nm W.heap.size w2.drew a cap (by show W.heap.size ≤ w2.heap.size; omega) htk (hs2.below hd (fun _ x => by omega))
      have HB := fun (w3 : World) (hb : Below w2.heap.size w2.drew w3) => to_node hto' k' nm' W.heap.size w3 a' cap' (Nat.le_trans (show W.heap.size ≤ w2.drew.heap.size by show W.heap.size ≤ w2.heap.size; omega) hb.size) htj ((ht2.below hd (fun _ x => by omega)).below hb (fun _ x => by omega))
      unfold nodeV at HA HB
      go_cut [6] (fun s6 wx => s6 = .bool (sameN k nm ks k' nm' js) ∧ Below w2.heap.size w2 wx)
      case first =>
        go_region_held3 (fun w => w.cell? ⟨W.heap.size, 0, none⟩ = some (.int .i64 k) ∧ w.cell? ⟨W.heap.size, 1, none⟩ = some (.string nm) ∧ w.cell? ⟨W.heap.size, 2, none⟩ = some (.slice a ks.len cap) ∧
          w.cell? ⟨W.heap.size + 1, 0, none⟩ = some (.int .i64 k') ∧ w.cell? ⟨W.heap.size + 1, 1, none⟩ = some (.string nm') ∧ w.cell? ⟨W.heap.size + 1, 2, none⟩ = some (.slice a' js.len cap'))
          (first | exact ⟨x0, x1, x2, y0, y1, y2⟩ | exact k3 | exact k4 | exact k5)
          (first
            | (go_at_call_of 7 (Value.slice a ks.len cap); refine HA.mono ?_; rintro e w3 ⟨c3, G3, s3, rfl, b3, g3, -⟩; replace b3 : Below w2.heap.size w2.drew w3 := b3; have k3 := two_boxes q1 q2 b3)
            | (go_at_call_of 7 (Value.slice a' js.len cap'); refine (HB w3 b3).mono ?_; rintro e w4 ⟨c4, G4, s4, rfl, b4, g4, -⟩; have k4 := two_boxes q1 q2 (b3.trans (b4.mono b3.size)))
            | (go_at_call 10; refine (same_node _ G3 (Nat.lt_succ_self _) G4 k nm k' nm' w4.heap.size w4 (some ⟨c3, 0, none⟩) (some ⟨c4, 0, none⟩) G3.len G4.len (Nat.le_refl _) ((g3.below b4 (fun _ x => x.2)).mono (fun _ x => Nat.lt_of_lt_of_le x.2 b4.size)) (g4.mono (fun _ x => x.2))).mono ?_; rintro e w5 ⟨rfl, b5⟩; rw [sameN_sim s3 s4]; have k5 := two_boxes q1 q2 ((b3.trans (b4.mono b3.size)).trans (b5.mono (Nat.le_trans b3.size b4.size)))))
        all_goals
          go_wp2_with fail
          go_meet
          case rel => exact ⟨rfl, hd.trans ((b3.trans (b4.mono b3.size)).trans (b5.mono (Nat.le_trans b3.size b4.size)))⟩
      case rest =>
        obtain ⟨rfl, b5⟩ := hcut
        obtain ⟨w5, hw5⟩ : ∃ w5, w5 = wc := ⟨_, rfl⟩
        subst hw5
        generalize hbb : sameN k nm ks k' nm' js = bb
        have HBB := hide hbb
        clear hbb HA HB hd x0 x1 x2 y0 y1 y2
        have z5 := b5.size
        replace q1 := q1.below b5 (by omega)
        replace q2 := q2.below b5 (by omega)
        have B5 := B2.trans (b5.mono (by omega))
        have hs5 := hs2.below b5 (fun _ x => by omega)
        have ht5 := ht2.below b5 (fun _ x => by omega)
        clear b5 hs2 ht2 B2
        obtain ⟨-, x0, x1, x2, -, -, -⟩ := id q1
        obtain ⟨-, y0, y1, y2, -, -, -⟩ := id q2
        go_wp2_with fail
        refine (to_node hto k nm W.heap.size w5 a cap (by omega) htk hs5).mono ?_
        rintro e w6 ⟨c6, G6, s6, rfl, b6, g6, f6⟩
        unfold nodeV
        have z6 := b6.size
        have q6 := Box3.new w6 (.int .i64 k) (.string nm) (.slice (some ⟨c6, 0, none⟩) G6.len G6.len) 29
        have b7 := below_alloc1 w6 (.cells #[.int .i64 k, .string nm, .slice (some ⟨c6, 0, none⟩) G6.len G6.len] 29)
        have z7 : (w6.alloc (.cells #[.int .i64 k, .string nm, .slice (some ⟨c6, 0, none⟩) G6.len G6.len] 29)).heap.size = w6.heap.size + 1 := by simp
        replace q1 := (q1.below b6 (by omega)).below b7 (by omega)
        replace q2 := (q2.below b6 (by omega)).below b7 (by omega)
        have B7 := (B5.trans (b6.mono (by omega))).trans (b7.mono (by omega))
        have hs7 := (hs5.below b6 (fun _ x => by omega)).below b7 (fun _ x => by omega)
        have ht7 := (ht5.below b6 (fun _ x => by omega)).below b7 (fun _ x => by omega)
        have g7 := (g6.below b7 (fun _ x => x.2)).mono (T := fun c => c < w6.heap.size) (fun c x => x.2)
        clear b6 hs5 ht5 B5 x0 x1 x2 y0 y1 y2 g6
        obtain ⟨-, x0, x1, x2, -, -, -⟩ := id q1
        obtain ⟨-, y0, y1, y2, -, -, -⟩ := id q2
        go_wp2_with fail
        generalize w6.alloc (.cells #[.int .i64 k, .string nm, .slice (some ⟨c6, 0, none⟩) G6.len G6.len] 29) = w7 at q1 q2 q6 b7 z7 B7 hs7 ht7 g7 x0 x1 x2 y0 y1 y2 ⊢
        clear b7
        refine (to_node hto' k' nm' W.heap.size w7 a' cap' (by omega) htj ht7).mono ?_
        rintro e w8 ⟨c8, G8, s8, rfl, b8, g8, f8⟩
        unfold nodeV
        have z8 := b8.size
        have q8 := Box3.new w8 (.int .i64 k') (.string nm') (.slice (some ⟨c8, 0, none⟩) G8.len G8.len) 29
        have b9 := below_alloc1 w8 (.cells #[.int .i64 k', .string nm', .slice (some ⟨c8, 0, none⟩) G8.len G8.len] 29)
        have z9 : (w8.alloc (.cells #[.int .i64 k', .string nm', .slice (some ⟨c8, 0, none⟩) G8.len G8.len] 29)).heap.size = w8.heap.size + 1 := by simp
        replace q1 := (q1.below b8 (by omega)).below b9 (by omega)
        replace q2 := (q2.below b8 (by omega)).below b9 (by omega)
        replace q6 := (q6.below b8 (by omega)).below b9 (by omega)
        have B9 := (B7.trans (b8.mono (by omega))).trans (b9.mono (by omega))
        have hs9 := (hs7.below b8 (fun _ x => by omega)).below b9 (fun _ x => by omega)
        have ht9 := (ht7.below b8 (fun _ x => by omega)).below b9 (fun _ x => by omega)
        have g9 := (g7.below b8 (fun _ x => by omega)).below b9 (fun _ x => by omega)
        have i9 := (g8.below b9 (fun _ x => x.2)).mono (T := fun c => c < w8.heap.size) (fun c x => x.2)
        clear b8 hs7 ht7 B7 x0 x1 x2 y0 y1 y2 g8 g7
        obtain ⟨-, x0, x1, x2, -, -, -⟩ := id q6
        go_wp2_with fail
        generalize w8.alloc (.cells #[.int .i64 k', .string nm', .slice (some ⟨c8, 0, none⟩) G8.len G8.len] 29) = w9 at q1 q2 q6 q8 b9 z9 B9 hs9 ht9 g9 i9 x0 x1 x2 ⊢
        clear b9 x0 x1 x2
        refine (isame k nm (some ⟨c6, 0, none⟩) G6.len G6 k' nm' (some ⟨c8, 0, none⟩) G8.len G8 w9 ⟨g9.mono (fun _ x => by omega), rfl, f6⟩ ⟨i9.mono (fun _ x => by omega), rfl, f8⟩ (by rw [s6.size]; omega)).mono ?_
        rintro e w10 ⟨rfl, b10⟩
        rw [sameN_sim s6 s8, HBB.out]
        have z10 := b10.size
        replace q1 := q1.below b10 (by omega)
        replace q2 := q2.below b10 (by omega)
        replace q6 := q6.below b10 (by omega)
        replace q8 := q8.below b10 (by omega)
        have B10 := B9.trans (b10.mono (by omega))
        have hs10 := hs9.below b10 (fun _ x => by omega)
        have ht10 := ht9.below b10 (fun _ x => by omega)
        have g10 := g9.below b10 (fun _ x => by omega)
        have i10 := i9.below b10 (fun _ x => by omega)
        clear b10 hs9 ht9 B9 g9 i9 HBB
        obtain ⟨-, x0, x1, x2, -, -, -⟩ := id q1
        obtain ⟨-, y0, y1, y2, -, -, -⟩ := id q6
        go_wp2_with fail
        have hd : Below w10.heap.size w10 w10.drew := (Below.refl _ _).drew
        have HT := to_node hto k nm W.heap.size w10.drew a cap (by show W.heap.size ≤ w10.heap.size; omega) htk (hs10.below hd (fun _ x => by omega))
        have HE := eq_row _ G6 (Nat.lt_succ_self _)
        unfold nodeV at HT
        go_cut [39] (fun s39 wx => s39 = .bool false ∧ Below w10.heap.size w10 wx)
        case first =>
          go_region_held3 (fun w => w.cell? ⟨W.heap.size, 0, none⟩ = some (.int .i64 k) ∧ w.cell? ⟨W.heap.size, 1, none⟩ = some (.string nm) ∧ w.cell? ⟨W.heap.size, 2, none⟩ = some (.slice a ks.len cap) ∧
            w.cell? ⟨w6.heap.size, 0, none⟩ = some (.int .i64 k) ∧ w.cell? ⟨w6.heap.size, 1, none⟩ = some (.string nm) ∧ w.cell? ⟨w6.heap.size, 2, none⟩ = some (.slice (some ⟨c6, 0, none⟩) G6.len G6.len))
            (first | exact ⟨x0, x1, x2, y0, y1, y2⟩ | exact k7 | exact k8)
            (first
              | (go_at_call 7; refine HT.mono ?_; rintro e w11 ⟨c7, G7, s7, rfl, e7, t7, -⟩; replace e7 : Below w10.heap.size w10.drew w11 := e7; have k7 := two_boxes q1 q6 e7)
              | (go_at_call 9; refine (eq_node HE k nm G7 w11.heap.size w11 (some ⟨c6, 0, none⟩) (some ⟨c7, 0, none⟩) G6.len G7.len (Nat.le_refl _) (s6.trans s7.symm) (((g10.below hd (fun _ x => by omega)).below e7 (fun _ x => by omega)).mono (fun _ x => Nat.lt_of_lt_of_le x (Nat.le_trans (show w6.heap.size ≤ w10.drew.heap.size by show w6.heap.size ≤ w10.heap.size; omega) e7.size))) (t7.mono (fun _ x => x.2))).mono ?_; rintro e w12 ⟨rfl, e8⟩; have k8 := two_boxes q1 q6 (e7.trans (e8.mono e7.size))))
          all_goals
            go_wp2_with fail
            go_meet
            case rel => exact ⟨rfl, hd.trans (e7.trans (e8.mono e7.size))⟩
        case rest =>
          obtain ⟨rfl, b13⟩ := hcut
          obtain ⟨w13, hw13⟩ : ∃ w13, w13 = wc := ⟨_, rfl⟩
          subst hw13
          have z13 := b13.size
          replace q2 := q2.below b13 (by omega)
          replace q8 := q8.below b13 (by omega)
          have B13 := B10.trans (b13.mono (by omega))
          have ht13 := ht10.below b13 (fun _ x => by omega)
          have i13 := i10.below b13 (fun _ x => by omega)
          clear b13 hs10 ht10 B10 g10 i10 HT HE hd x0 x1 x2 y0 y1 y2 q1 q6
          obtain ⟨-, x0, x1, x2, -, -, -⟩ := id q2
          obtain ⟨-, y0, y1, y2, -, -, -⟩ := id q8
          go_wp2_with fail
          have hd : Below w13.heap.size w13 w13.drew := (Below.refl _ _).drew
          have HT := to_node hto' k' nm' W.heap.size w13.drew a' cap' (by show W.heap.size ≤ w13.heap.size; omega) htj (ht13.below hd (fun _ x => by omega))
          have HE := eq_row _ G8 (Nat.lt_succ_self _)
          unfold nodeV at HT
          go_region_held3 (fun w => w.cell? ⟨W.heap.size + 1, 0, none⟩ = some (.int .i64 k') ∧ w.cell? ⟨W.heap.size + 1, 1, none⟩ = some (.string nm') ∧ w.cell? ⟨W.heap.size + 1, 2, none⟩ = some (.slice a' js.len cap') ∧
            w.cell? ⟨w8.heap.size, 0, none⟩ = some (.int .i64 k') ∧ w.cell? ⟨w8.heap.size, 1, none⟩ = some (.string nm') ∧ w.cell? ⟨w8.heap.size, 2, none⟩ = some (.slice (some ⟨c8, 0, none⟩) G8.len G8.len))
            (first | exact ⟨x0, x1, x2, y0, y1, y2⟩ | exact k7 | exact k8)
            (first
              | (go_at_call 7; refine HT.mono ?_; rintro e w14 ⟨c7, G7, s7, rfl, e7, t7, -⟩; replace e7 : Below w13.heap.size w13.drew w14 := e7; have k7 := two_boxes q2 q8 e7)
              | (go_at_call 9; refine (eq_node HE k' nm' G7 w14.heap.size w14 (some ⟨c8, 0, none⟩) (some ⟨c7, 0, none⟩) G8.len G7.len (Nat.le_refl _) (s8.trans s7.symm) (((i13.below hd (fun _ x => by omega)).below e7 (fun _ x => by omega)).mono (fun _ x => Nat.lt_of_lt_of_le x (Nat.le_trans (show w8.heap.size ≤ w13.drew.heap.size by show w8.heap.size ≤ w13.heap.size; omega) e7.size))) (t7.mono (fun _ x => x.2))).mono ?_; rintro e w15 ⟨rfl, e8⟩; have k8 := two_boxes q2 q8 (e7.trans (e8.mono e7.size))))
          all_goals
            go_wp2_with fail
            go_ret
            exact ⟨rfl, (B13.trans (hd.mono (by omega))).trans ((e7.trans (e8.mono e7.size)).mono (by omega))⟩

end Go.Proofs.Ytjfoagmenehapaa
