import Derived.Test.YtjlefdalobgdfaaEq
import Derived.Test.YtjlefdalobgdfaaTz
namespace Go.Proofs.Ytjlefdalobgdfaa
open Go.RowKit Go.Joins

theorem two_boxes {w6 w : World} {b c : Nat} {x0 xi x1 x2 y0 yi y1 y2 : Value} (q1 : Box4 w6 b x0 xi x1 x2) (q5 : Box4 w6 c y0 yi y1 y2) (h : Below w6.heap.size w6.drew w) :
    w.cell? ⟨b, 0, none⟩ = some x0 ∧ w.cell? ⟨b, 1, none⟩ = some xi ∧ w.cell? ⟨b, 2, none⟩ = some x1 ∧ w.cell? ⟨b, 3, none⟩ = some x2 ∧ w.cell? ⟨c, 0, none⟩ = some y0 ∧ w.cell? ⟨c, 1, none⟩ = some yi ∧ w.cell? ⟨c, 2, none⟩ = some y1 ∧ w.cell? ⟨c, 3, none⟩ = some y2 :=
  have h' : Below w6.heap.size w6 w := (Below.refl _ _).drew.trans h
  have r1 := q1.below h' q1.lt
  have r5 := q5.below h' q5.lt
  ⟨r1.c0, r1.ci, r1.c1, r1.c2, r5.c0, r5.ci, r5.c1, r5.c2⟩

set_option maxHeartbeats 2000000 in
set_option maxRecDepth 100000 in
theorem lawFault (k ix : Int) (nm : ByteArray) (a : Option Addr) (cap : Nat) (ks : Fo) (W : World) (hk : (Lit.int .i64 k).wf = true) (hix : (Lit.int .i64 ix).wf = true) (hnm : nm.size ≤ maxLen) (hs : ks.Sl W (fun b => b < W.heap.size) a cap) :
    Calls Try.prog 3 #[nodeV k ix nm a ks.len cap] W fun e W' => e = .returned (.bool true) ∧ Below W.heap.size W W' := by
  have hsz := sz_row _ ks (Nat.le_refl _)
  have hto := to_row _ ks (Nat.lt_succ_self _)
  unfold nodeV
  have q1 := Box4.new W (.int .i64 k) (.int .i64 ix) (.string nm) (.slice a ks.len cap) 24
  have bA := below_alloc1 W (.cells #[.int .i64 k, .int .i64 ix, .string nm, .slice a ks.len cap] 24)
  have zA : (W.alloc (.cells #[.int .i64 k, .int .i64 ix, .string nm, .slice a ks.len cap] 24)).heap.size = W.heap.size + 1 := by simp
  by_cases h : (1048576 : Int) < ((nm.size + ks.tot : Nat) : Int)
  · go_enter Try.func3, Try.ntmps3
    go_wp2_with fail
    refine (sz_node hsz k ix nm W.heap.size 1048576 _ a cap (by omega) (by omega) (by omega) hnm (hs.below bA (fun _ x => x))).mono ?_
    rintro e w1 ⟨rfl, b1⟩
    rw [szV_lt h]
    go_wp2_with fail
    go_ret
    exact ⟨rfl, bA.trans (b1.mono (by omega))⟩
  · go_enter Try.func3, Try.ntmps3
    go_wp2_with fail
    generalize W.alloc (.cells #[.int .i64 k, .int .i64 ix, .string nm, .slice a ks.len cap] 24) = A at q1 bA zA ⊢
    have hsA := hs.below bA (fun _ x => x)
    have ht : ks.tot ≤ 1048576 := by omega
    have hsize := ks.size_le
    refine (sz_node hsz k ix nm W.heap.size 1048576 A a cap (by omega) (by omega) (by omega) hnm hsA).mono ?_
    rintro e w1 ⟨rfl, b1⟩
    rw [szV_ge (by omega)]
    have z1 := b1.size
    replace q1 := q1.below b1 (by omega)
    have hs1 := hsA.below b1 (fun _ x => by omega)
    have B1 := bA.trans (b1.mono (by omega))
    clear b1 bA hsA
    obtain ⟨-, x0, xi, x1, x2, -, -, -, -⟩ := id q1
    go_wp2_with fail
    refine (to_node hto k ix nm W.heap.size w1 a cap (by omega) ht hs1).mono ?_
    rintro e w2 ⟨c2, G2, s2, rfl, b2, g2, -⟩
    have z2 := b2.size
    replace q1 := q1.below b2 (by omega)
    have hs2 := hs1.below b2 (fun _ x => by omega)
    have B2 := B1.trans (b2.mono (by omega))
    clear b2 hs1 B1 x0 xi x1 x2
    obtain ⟨-, x0, xi, x1, x2, -, -, -, -⟩ := id q1
    go_wp2_with fail
    refine (sfault k ix nm _ _ G2 w2 (g2.mono (fun _ x => x.2))).mono ?_
    rintro e w3 ⟨rfl, b3⟩
    rw [fltB_sim s2]
    have z3 := b3.size
    replace q1 := q1.below b3 (by omega)
    have hs3 := hs2.below b3 (fun _ x => by omega)
    have B3 := B2.trans (b3.mono (by omega))
    clear b3 hs2 B2 x0 xi x1 x2 g2 s2
    obtain ⟨-, x0, xi, x1, x2, -, -, -, -⟩ := id q1
    go_wp2_with fail
    refine (to_node hto k ix nm W.heap.size w3 a cap (by omega) ht hs3).mono ?_
    rintro e w4 ⟨c4, G4, s4, rfl, b4, g4, -⟩
    unfold nodeV
    have z4 := b4.size
    replace q1 := q1.below b4 (by omega)
    have hs4 := hs3.below b4 (fun _ x => by omega)
    have B4 := B3.trans (b4.mono (by omega))
    clear b4 hs3 B3 x0 xi x1 x2
    obtain ⟨-, x0, xi, x1, x2, -, -, -, -⟩ := id q1
    have q5 := Box4.new w4 (.int .i64 k) (.int .i64 ix) (.string nm) (.slice (some ⟨c4, 0, none⟩) G4.len G4.len) 29
    have b5 := below_alloc1 w4 (.cells #[.int .i64 k, .int .i64 ix, .string nm, .slice (some ⟨c4, 0, none⟩) G4.len G4.len] 29)
    have z5 : (w4.alloc (.cells #[.int .i64 k, .int .i64 ix, .string nm, .slice (some ⟨c4, 0, none⟩) G4.len G4.len] 29)).heap.size = w4.heap.size + 1 := by simp
    go_wp2_with fail
    generalize w4.alloc (.cells #[.int .i64 k, .int .i64 ix, .string nm, .slice (some ⟨c4, 0, none⟩) G4.len G4.len] 29) = w5 at q5 b5 z5 ⊢
    have g5 := (g4.below b5 (fun _ x => x.2)).mono (T := fun c => c < w5.heap.size) (fun c x => by omega)
    replace q1 := q1.below b5 (by omega)
    have hs5 := hs4.below b5 (fun _ x => by omega)
    have B5 := B4.trans (b5.mono (by omega))
    clear b5 hs4 B4 x0 xi x1 x2 g4
    refine (ifault k ix nm (some ⟨c4, 0, none⟩) G4.len G4 w5 hk hix hnm g5 (by rw [s4.size]; omega)).mono ?_
    rintro e w6 ⟨rfl, b6⟩
    rw [fltB_sim s4]
    generalize fltB k ix nm ks = FB
    have z6 := b6.size
    have g6 := (g5.below b6 (fun _ x => x)).mono (T := fun c => c < w6.heap.size) (fun c x => by omega)
    replace q1 := q1.below b6 (by omega)
    replace q5 := q5.below b6 (by omega)
    have hs6 := hs5.below b6 (fun _ x => by omega)
    have B6 := B5.trans (b6.mono (by omega))
    clear b6 hs5 B5 g5
    obtain ⟨-, x0, xi, x1, x2, -, -, -, -⟩ := id q1
    obtain ⟨-, y0, yi, y1, y2, -, -, -, -⟩ := id q5
    go_wp2_with fail
    have hd : Below w6.heap.size w6 w6.drew := (Below.refl _ _).drew
    have HT := to_node hto k ix nm W.heap.size w6.drew a cap (by show W.heap.size ≤ w6.heap.size; omega) ht (hs6.below hd (fun _ x => by omega))
    have HE := eq_row _ G4 (Nat.lt_succ_self _)
    unfold nodeV at HT
    go_region_held3 (fun w => w.cell? ⟨W.heap.size, 0, none⟩ = some (.int .i64 k) ∧ w.cell? ⟨W.heap.size, 1, none⟩ = some (.int .i64 ix) ∧ w.cell? ⟨W.heap.size, 2, none⟩ = some (.string nm) ∧ w.cell? ⟨W.heap.size, 3, none⟩ = some (.slice a ks.len cap) ∧
        w.cell? ⟨w4.heap.size, 0, none⟩ = some (.int .i64 k) ∧ w.cell? ⟨w4.heap.size, 1, none⟩ = some (.int .i64 ix) ∧ w.cell? ⟨w4.heap.size, 2, none⟩ = some (.string nm) ∧ w.cell? ⟨w4.heap.size, 3, none⟩ = some (.slice (some ⟨c4, 0, none⟩) G4.len G4.len))
      (first | exact ⟨x0, xi, x1, x2, y0, yi, y1, y2⟩ | exact k7 | exact k8)
      (first
        | (go_at_call 11; refine HT.mono ?_; rintro e w7 ⟨c7, G7, s7, rfl, b7, g7, -⟩; replace b7 : Below w6.heap.size w6.drew w7 := b7; have k7 := two_boxes q1 q5 b7)
        | (go_at_call 13; refine (eq_node HE k ix nm G7 w7.heap.size w7 (some ⟨c4, 0, none⟩) (some ⟨c7, 0, none⟩) G4.len G7.len (Nat.le_refl _) (s4.trans s7.symm) (((g6.below hd (fun _ x => x)).below b7 (fun _ x => x)).mono (fun _ x => Nat.lt_of_lt_of_le x b7.size)) (g7.mono (fun _ x => x.2))).mono ?_; rintro e w8 ⟨rfl, b8⟩; have k8 := two_boxes q1 q5 (b7.trans (b8.mono b7.size))))
    all_goals
      go_wp2_with fail
      go_ret
      exact ⟨rfl, (B6.trans (hd.mono (by omega))).trans ((b7.trans (b8.mono b7.size)).mono (by omega))⟩

end Go.Proofs.Ytjlefdalobgdfaa
