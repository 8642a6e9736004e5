import Derived.Test.YtjfoagmenehapaaGreatDoorQ28
namespace Go.Proofs.YtjfoagmenehapaaGreatDoor.Tree
open Go.RowKit Go.Joins

set_option maxHeartbeats 1000000 in
set_option maxRecDepth 100000 in
theorem dsh60 (w : World) : Calls Tryz.prog 43 #[.int .i64 60] w fun e w' => e = .returned (.string ⟨#[110, 97, 109, 101, 115, 32, 99, 111, 110, 116, 101, 120, 116, 32, 116]⟩) ∧ w' = w := by
  go_enter Tryz.func43, Tryz.ntmps43
  go_wp2_with fail
  go_ret
  exact ⟨rfl, rfl⟩

set_option maxHeartbeats 1000000 in
set_option maxRecDepth 100000 in
theorem dsh61 (w : World) : Calls Tryz.prog 43 #[.int .i64 61] w fun e w' => e = .returned (.string ⟨#[112, 42, 32, 114, 104, 115]⟩) ∧ w' = w := by
  go_enter Tryz.func43, Tryz.ntmps43
  go_wp2_with fail
  go_ret
  exact ⟨rfl, rfl⟩

set_option maxHeartbeats 1000000 in
set_option maxRecDepth 100000 in
theorem dsh62 (w : World) : Calls Tryz.prog 43 #[.int .i64 62] w fun e w' => e = .returned (.string ⟨#[108, 101, 118, 101, 108, 32, 110, 97, 109, 101, 115]⟩) ∧ w' = w := by
  go_enter Tryz.func43, Tryz.ntmps43
  go_wp2_with fail
  go_ret
  exact ⟨rfl, rfl⟩

set_option maxHeartbeats 1000000 in
set_option maxRecDepth 100000 in
theorem dsh63 (w : World) : Calls Tryz.prog 43 #[.int .i64 63] w fun e w' => e = .returned (.string ⟨#[110, 97, 109, 101, 115, 32, 99, 111, 110, 115, 116, 114, 43, 32, 110, 97, 109, 101, 115]⟩) ∧ w' = w := by
  go_enter Tryz.func43, Tryz.ntmps43
  go_wp2_with fail
  go_ret
  exact ⟨rfl, rfl⟩

set_option maxHeartbeats 1000000 in
set_option maxRecDepth 100000 in
theorem dsh64 (w : World) : Calls Tryz.prog 43 #[.int .i64 64] w fun e w' => e = .returned (.string ⟨#[116, 42]⟩) ∧ w' = w := by
  go_enter Tryz.func43, Tryz.ntmps43
  go_wp2_with fail
  go_ret
  exact ⟨rfl, rfl⟩

set_option maxHeartbeats 1000000 in
set_option maxRecDepth 100000 in
theorem dsh65 (w : World) : Calls Tryz.prog 43 #[.int .i64 65] w fun e w' => e = .returned (.string ⟨#[99, 111, 110, 116, 101, 120, 116, 32, 116, 118, 97, 114, 32, 115, 105, 103, 42]⟩) ∧ w' = w := by
  go_enter Tryz.func43, Tryz.ntmps43
  go_wp2_with fail
  go_ret
  exact ⟨rfl, rfl⟩

set_option maxHeartbeats 1000000 in
set_option maxRecDepth 100000 in
theorem dsh66 (w : World) : Calls Tryz.prog 43 #[.int .i64 66] w fun e w' => e = .returned (.string ⟨#[99, 111, 110, 116, 101, 120, 116, 32, 116, 32, 99, 108, 97, 117, 115, 101, 42]⟩) ∧ w' = w := by
  go_enter Tryz.func43, Tryz.ntmps43
  go_wp2_with fail
  go_ret
  exact ⟨rfl, rfl⟩

set_option maxHeartbeats 1000000 in
set_option maxRecDepth 100000 in
theorem dsh67 (w : World) : Calls Tryz.prog 43 #[.int .i64 67] w fun e w' => e = .returned (.string ⟨#[124, 32, 110, 97, 109, 101, 115]⟩) ∧ w' = w := by
  go_enter Tryz.func43, Tryz.ntmps43
  go_wp2_with fail
  go_ret
  exact ⟨rfl, rfl⟩

set_option maxHeartbeats 1000000 in
set_option maxRecDepth 100000 in
theorem dsh68 (w : World) : Calls Tryz.prog 43 #[.int .i64 68] w fun e w' => e = .returned (.string ⟨#[101, 120, 112, 111, 114, 116, 115, 32, 105, 109, 112, 111, 114, 116, 42, 32, 116, 111, 112, 42]⟩) ∧ w' = w := by
  go_enter Tryz.func43, Tryz.ntmps43
  go_wp2_with fail
  go_ret
  exact ⟨rfl, rfl⟩

set_option maxHeartbeats 1000000 in
set_option maxRecDepth 100000 in
theorem dsh69 (w : World) : Calls Tryz.prog 43 #[.int .i64 69] w fun e w' => e = .returned (.string ⟨#[98, 111, 117, 110, 100, 42]⟩) ∧ w' = w := by
  go_enter Tryz.func43, Tryz.ntmps43
  go_wp2_with fail
  go_ret
  exact ⟨rfl, rfl⟩

set_option maxHeartbeats 1000000 in
set_option maxRecDepth 100000 in
theorem dsh70 (w : World) : Calls Tryz.prog 43 #[.int .i64 70] w fun e w' => e = .returned (.string ⟨#[105, 116, 101, 109, 42]⟩) ∧ w' = w := by
  go_enter Tryz.func43, Tryz.ntmps43
  go_wp2_with fail
  go_ret
  exact ⟨rfl, rfl⟩

set_option maxHeartbeats 1000000 in
set_option maxRecDepth 100000 in
theorem dshElse (k : Int) (w : World) (n60 : k ≠ 60) (n61 : k ≠ 61) (n62 : k ≠ 62) (n63 : k ≠ 63) (n64 : k ≠ 64) (n65 : k ≠ 65) (n66 : k ≠ 66) (n67 : k ≠ 67) (n68 : k ≠ 68) (n69 : k ≠ 69) (n70 : k ≠ 70) : Calls Tryz.prog 43 #[.int .i64 k] w fun e w' => e = .returned (.string ⟨#[110, 111, 110, 101]⟩) ∧ w' = w := by
  have z60 : (k == 60) = false := beq_eq_false_iff_ne.2 n60
  have z61 : (k == 61) = false := beq_eq_false_iff_ne.2 n61
  have z62 : (k == 62) = false := beq_eq_false_iff_ne.2 n62
  have z63 : (k == 63) = false := beq_eq_false_iff_ne.2 n63
  have z64 : (k == 64) = false := beq_eq_false_iff_ne.2 n64
  have z65 : (k == 65) = false := beq_eq_false_iff_ne.2 n65
  have z66 : (k == 66) = false := beq_eq_false_iff_ne.2 n66
  have z67 : (k == 67) = false := beq_eq_false_iff_ne.2 n67
  have z68 : (k == 68) = false := beq_eq_false_iff_ne.2 n68
  have z69 : (k == 69) = false := beq_eq_false_iff_ne.2 n69
  have z70 : (k == 70) = false := beq_eq_false_iff_ne.2 n70
  clear n60 n61 n62 n63 n64 n65 n66 n67 n68 n69 n70
  go_enter Tryz.func43, Tryz.ntmps43
  go_wp2_with fail
  go_ret
  exact ⟨rfl, rfl⟩

set_option maxHeartbeats 1000000 in
set_option maxRecDepth 100000 in
theorem shGo (k : Int) (x : ByteArray) (hx : ∀ w, Calls Tryz.prog 43 #[.int .i64 k] w fun e w' => e = .returned (.string x) ∧ w' = w) (w : World) (n1 : k ≠ 1) (n2 : k ≠ 2) (n3 : k ≠ 3) (n4 : k ≠ 4) (n5 : k ≠ 5) (n6 : k ≠ 6) (n7 : k ≠ 7) (n8 : k ≠ 8) (n9 : k ≠ 9) (n10 : k ≠ 10) (n11 : k ≠ 11) (n12 : k ≠ 12) (n13 : k ≠ 13) (n14 : k ≠ 14) (n15 : k ≠ 15) (n16 : k ≠ 16) (n17 : k ≠ 17) (n19 : k ≠ 19) (n20 : k ≠ 20) (n21 : k ≠ 21) (n22 : k ≠ 22) (n23 : k ≠ 23) (n30 : k ≠ 30) (n31 : k ≠ 31) (n32 : k ≠ 32) (n33 : k ≠ 33) (n34 : k ≠ 34) (n35 : k ≠ 35) (n36 : k ≠ 36) (n37 : k ≠ 37) (n38 : k ≠ 38) (n39 : k ≠ 39) (n40 : k ≠ 40) (n50 : k ≠ 50) (n51 : k ≠ 51) (n52 : k ≠ 52) (n53 : k ≠ 53) (n54 : k ≠ 54) (n55 : k ≠ 55) (n71 : k ≠ 71) : Calls Tryz.prog 28 #[.int .i64 k] w fun e w' => e = .returned (.string x) ∧ w' = w := by
  have HX : Hid (∀ w, Calls Tryz.prog 43 #[.int .i64 k] w fun e w' => e = .returned (.string x) ∧ w' = w) := hx
  have z1 : (k == 1) = false := beq_eq_false_iff_ne.2 n1
  have z2 : (k == 2) = false := beq_eq_false_iff_ne.2 n2
  have z3 : (k == 3) = false := beq_eq_false_iff_ne.2 n3
  have z4 : (k == 4) = false := beq_eq_false_iff_ne.2 n4
  have z5 : (k == 5) = false := beq_eq_false_iff_ne.2 n5
  have z6 : (k == 6) = false := beq_eq_false_iff_ne.2 n6
  have z7 : (k == 7) = false := beq_eq_false_iff_ne.2 n7
  have z8 : (k == 8) = false := beq_eq_false_iff_ne.2 n8
  have z9 : (k == 9) = false := beq_eq_false_iff_ne.2 n9
  have z10 : (k == 10) = false := beq_eq_false_iff_ne.2 n10
  have z11 : (k == 11) = false := beq_eq_false_iff_ne.2 n11
  have z12 : (k == 12) = false := beq_eq_false_iff_ne.2 n12
  have z13 : (k == 13) = false := beq_eq_false_iff_ne.2 n13
  have z14 : (k == 14) = false := beq_eq_false_iff_ne.2 n14
  have z15 : (k == 15) = false := beq_eq_false_iff_ne.2 n15
  have z16 : (k == 16) = false := beq_eq_false_iff_ne.2 n16
  have z17 : (k == 17) = false := beq_eq_false_iff_ne.2 n17
  have z19 : (k == 19) = false := beq_eq_false_iff_ne.2 n19
  have z20 : (k == 20) = false := beq_eq_false_iff_ne.2 n20
  have z21 : (k == 21) = false := beq_eq_false_iff_ne.2 n21
  have z22 : (k == 22) = false := beq_eq_false_iff_ne.2 n22
  have z23 : (k == 23) = false := beq_eq_false_iff_ne.2 n23
  have z30 : (k == 30) = false := beq_eq_false_iff_ne.2 n30
  have z31 : (k == 31) = false := beq_eq_false_iff_ne.2 n31
  have z32 : (k == 32) = false := beq_eq_false_iff_ne.2 n32
  have z33 : (k == 33) = false := beq_eq_false_iff_ne.2 n33
  have z34 : (k == 34) = false := beq_eq_false_iff_ne.2 n34
  have z35 : (k == 35) = false := beq_eq_false_iff_ne.2 n35
  have z36 : (k == 36) = false := beq_eq_false_iff_ne.2 n36
  have z37 : (k == 37) = false := beq_eq_false_iff_ne.2 n37
  have z38 : (k == 38) = false := beq_eq_false_iff_ne.2 n38
  have z39 : (k == 39) = false := beq_eq_false_iff_ne.2 n39
  have z40 : (k == 40) = false := beq_eq_false_iff_ne.2 n40
  have z50 : (k == 50) = false := beq_eq_false_iff_ne.2 n50
  have z51 : (k == 51) = false := beq_eq_false_iff_ne.2 n51
  have z52 : (k == 52) = false := beq_eq_false_iff_ne.2 n52
  have z53 : (k == 53) = false := beq_eq_false_iff_ne.2 n53
  have z54 : (k == 54) = false := beq_eq_false_iff_ne.2 n54
  have z55 : (k == 55) = false := beq_eq_false_iff_ne.2 n55
  have z71 : (k == 71) = false := beq_eq_false_iff_ne.2 n71
  clear hx n1 n2 n3 n4 n5 n6 n7 n8 n9 n10 n11 n12 n13 n14 n15 n16 n17 n19 n20 n21 n22 n23 n30 n31 n32 n33 n34 n35 n36 n37 n38 n39 n40 n50 n51 n52 n53 n54 n55 n71
  go_enter Tryz.func28, Tryz.ntmps28
  go_wp2_with fail
  refine (HX.out _).mono ?_
  rintro e w2 ⟨rfl, rfl⟩
  go_wp2_with fail
  go_ret
  exact ⟨rfl, rfl⟩
theorem sh60 (w : World) : Calls Tryz.prog 28 #[.int .i64 60] w fun e w' => e = .returned (.string ⟨#[110, 97, 109, 101, 115, 32, 99, 111, 110, 116, 101, 120, 116, 32, 116]⟩) ∧ w' = w :=
  shGo 60 _ dsh60 w (by decide) (by decide) (by decide) (by decide) (by decide) (by decide) (by decide) (by decide) (by decide) (by decide) (by decide) (by decide) (by decide) (by decide) (by decide) (by decide) (by decide) (by decide) (by decide) (by decide) (by decide) (by decide) (by decide) (by decide) (by decide) (by decide) (by decide) (by decide) (by decide) (by decide) (by decide) (by decide) (by decide) (by decide) (by decide) (by decide) (by decide) (by decide) (by decide) (by decide)
theorem sh61 (w : World) : Calls Tryz.prog 28 #[.int .i64 61] w fun e w' => e = .returned (.string ⟨#[112, 42, 32, 114, 104, 115]⟩) ∧ w' = w :=
  shGo 61 _ dsh61 w (by decide) (by decide) (by decide) (by decide) (by decide) (by decide) (by decide) (by decide) (by decide) (by decide) (by decide) (by decide) (by decide) (by decide) (by decide) (by decide) (by decide) (by decide) (by decide) (by decide) (by decide) (by decide) (by decide) (by decide) (by decide) (by decide) (by decide) (by decide) (by decide) (by decide) (by decide) (by decide) (by decide) (by decide) (by decide) (by decide) (by decide) (by decide) (by decide) (by decide)
theorem sh62 (w : World) : Calls Tryz.prog 28 #[.int .i64 62] w fun e w' => e = .returned (.string ⟨#[108, 101, 118, 101, 108, 32, 110, 97, 109, 101, 115]⟩) ∧ w' = w :=
  shGo 62 _ dsh62 w (by decide) (by decide) (by decide) (by decide) (by decide) (by decide) (by decide) (by decide) (by decide) (by decide) (by decide) (by decide) (by decide) (by decide) (by decide) (by decide) (by decide) (by decide) (by decide) (by decide) (by decide) (by decide) (by decide) (by decide) (by decide) (by decide) (by decide) (by decide) (by decide) (by decide) (by decide) (by decide) (by decide) (by decide) (by decide) (by decide) (by decide) (by decide) (by decide) (by decide)
theorem sh63 (w : World) : Calls Tryz.prog 28 #[.int .i64 63] w fun e w' => e = .returned (.string ⟨#[110, 97, 109, 101, 115, 32, 99, 111, 110, 115, 116, 114, 43, 32, 110, 97, 109, 101, 115]⟩) ∧ w' = w :=
  shGo 63 _ dsh63 w (by decide) (by decide) (by decide) (by decide) (by decide) (by decide) (by decide) (by decide) (by decide) (by decide) (by decide) (by decide) (by decide) (by decide) (by decide) (by decide) (by decide) (by decide) (by decide) (by decide) (by decide) (by decide) (by decide) (by decide) (by decide) (by decide) (by decide) (by decide) (by decide) (by decide) (by decide) (by decide) (by decide) (by decide) (by decide) (by decide) (by decide) (by decide) (by decide) (by decide)
theorem sh64 (w : World) : Calls Tryz.prog 28 #[.int .i64 64] w fun e w' => e = .returned (.string ⟨#[116, 42]⟩) ∧ w' = w :=
  shGo 64 _ dsh64 w (by decide) (by decide) (by decide) (by decide) (by decide) (by decide) (by decide) (by decide) (by decide) (by decide) (by decide) (by decide) (by decide) (by decide) (by decide) (by decide) (by decide) (by decide) (by decide) (by decide) (by decide) (by decide) (by decide) (by decide) (by decide) (by decide) (by decide) (by decide) (by decide) (by decide) (by decide) (by decide) (by decide) (by decide) (by decide) (by decide) (by decide) (by decide) (by decide) (by decide)
theorem sh65 (w : World) : Calls Tryz.prog 28 #[.int .i64 65] w fun e w' => e = .returned (.string ⟨#[99, 111, 110, 116, 101, 120, 116, 32, 116, 118, 97, 114, 32, 115, 105, 103, 42]⟩) ∧ w' = w :=
  shGo 65 _ dsh65 w (by decide) (by decide) (by decide) (by decide) (by decide) (by decide) (by decide) (by decide) (by decide) (by decide) (by decide) (by decide) (by decide) (by decide) (by decide) (by decide) (by decide) (by decide) (by decide) (by decide) (by decide) (by decide) (by decide) (by decide) (by decide) (by decide) (by decide) (by decide) (by decide) (by decide) (by decide) (by decide) (by decide) (by decide) (by decide) (by decide) (by decide) (by decide) (by decide) (by decide)
theorem sh66 (w : World) : Calls Tryz.prog 28 #[.int .i64 66] w fun e w' => e = .returned (.string ⟨#[99, 111, 110, 116, 101, 120, 116, 32, 116, 32, 99, 108, 97, 117, 115, 101, 42]⟩) ∧ w' = w :=
  shGo 66 _ dsh66 w (by decide) (by decide) (by decide) (by decide) (by decide) (by decide) (by decide) (by decide) (by decide) (by decide) (by decide) (by decide) (by decide) (by decide) (by decide) (by decide) (by decide) (by decide) (by decide) (by decide) (by decide) (by decide) (by decide) (by decide) (by decide) (by decide) (by decide) (by decide) (by decide) (by decide) (by decide) (by decide) (by decide) (by decide) (by decide) (by decide) (by decide) (by decide) (by decide) (by decide)
theorem sh67 (w : World) : Calls Tryz.prog 28 #[.int .i64 67] w fun e w' => e = .returned (.string ⟨#[124, 32, 110, 97, 109, 101, 115]⟩) ∧ w' = w :=
  shGo 67 _ dsh67 w (by decide) (by decide) (by decide) (by decide) (by decide) (by decide) (by decide) (by decide) (by decide) (by decide) (by decide) (by decide) (by decide) (by decide) (by decide) (by decide) (by decide) (by decide) (by decide) (by decide) (by decide) (by decide) (by decide) (by decide) (by decide) (by decide) (by decide) (by decide) (by decide) (by decide) (by decide) (by decide) (by decide) (by decide) (by decide) (by decide) (by decide) (by decide) (by decide) (by decide)
theorem sh68 (w : World) : Calls Tryz.prog 28 #[.int .i64 68] w fun e w' => e = .returned (.string ⟨#[101, 120, 112, 111, 114, 116, 115, 32, 105, 109, 112, 111, 114, 116, 42, 32, 116, 111, 112, 42]⟩) ∧ w' = w :=
  shGo 68 _ dsh68 w (by decide) (by decide) (by decide) (by decide) (by decide) (by decide) (by decide) (by decide) (by decide) (by decide) (by decide) (by decide) (by decide) (by decide) (by decide) (by decide) (by decide) (by decide) (by decide) (by decide) (by decide) (by decide) (by decide) (by decide) (by decide) (by decide) (by decide) (by decide) (by decide) (by decide) (by decide) (by decide) (by decide) (by decide) (by decide) (by decide) (by decide) (by decide) (by decide) (by decide)
theorem sh69 (w : World) : Calls Tryz.prog 28 #[.int .i64 69] w fun e w' => e = .returned (.string ⟨#[98, 111, 117, 110, 100, 42]⟩) ∧ w' = w :=
  shGo 69 _ dsh69 w (by decide) (by decide) (by decide) (by decide) (by decide) (by decide) (by decide) (by decide) (by decide) (by decide) (by decide) (by decide) (by decide) (by decide) (by decide) (by decide) (by decide) (by decide) (by decide) (by decide) (by decide) (by decide) (by decide) (by decide) (by decide) (by decide) (by decide) (by decide) (by decide) (by decide) (by decide) (by decide) (by decide) (by decide) (by decide) (by decide) (by decide) (by decide) (by decide) (by decide)
theorem sh70 (w : World) : Calls Tryz.prog 28 #[.int .i64 70] w fun e w' => e = .returned (.string ⟨#[105, 116, 101, 109, 42]⟩) ∧ w' = w :=
  shGo 70 _ dsh70 w (by decide) (by decide) (by decide) (by decide) (by decide) (by decide) (by decide) (by decide) (by decide) (by decide) (by decide) (by decide) (by decide) (by decide) (by decide) (by decide) (by decide) (by decide) (by decide) (by decide) (by decide) (by decide) (by decide) (by decide) (by decide) (by decide) (by decide) (by decide) (by decide) (by decide) (by decide) (by decide) (by decide) (by decide) (by decide) (by decide) (by decide) (by decide) (by decide) (by decide)
theorem shElse (k : Int) (w : World) (n1 : k ≠ 1) (n2 : k ≠ 2) (n3 : k ≠ 3) (n4 : k ≠ 4) (n5 : k ≠ 5) (n6 : k ≠ 6) (n7 : k ≠ 7) (n8 : k ≠ 8) (n9 : k ≠ 9) (n10 : k ≠ 10) (n11 : k ≠ 11) (n12 : k ≠ 12) (n13 : k ≠ 13) (n14 : k ≠ 14) (n15 : k ≠ 15) (n16 : k ≠ 16) (n17 : k ≠ 17) (n19 : k ≠ 19) (n20 : k ≠ 20) (n21 : k ≠ 21) (n22 : k ≠ 22) (n23 : k ≠ 23) (n30 : k ≠ 30) (n31 : k ≠ 31) (n32 : k ≠ 32) (n33 : k ≠ 33) (n34 : k ≠ 34) (n35 : k ≠ 35) (n36 : k ≠ 36) (n37 : k ≠ 37) (n38 : k ≠ 38) (n39 : k ≠ 39) (n40 : k ≠ 40) (n50 : k ≠ 50) (n51 : k ≠ 51) (n52 : k ≠ 52) (n53 : k ≠ 53) (n54 : k ≠ 54) (n55 : k ≠ 55) (n60 : k ≠ 60) (n61 : k ≠ 61) (n62 : k ≠ 62) (n63 : k ≠ 63) (n64 : k ≠ 64) (n65 : k ≠ 65) (n66 : k ≠ 66) (n67 : k ≠ 67) (n68 : k ≠ 68) (n69 : k ≠ 69) (n70 : k ≠ 70) (n71 : k ≠ 71) : Calls Tryz.prog 28 #[.int .i64 k] w fun e w' => e = .returned (.string ⟨#[110, 111, 110, 101]⟩) ∧ w' = w :=
  shGo k _ (fun w => dshElse k w n60 n61 n62 n63 n64 n65 n66 n67 n68 n69 n70) w n1 n2 n3 n4 n5 n6 n7 n8 n9 n10 n11 n12 n13 n14 n15 n16 n17 n19 n20 n21 n22 n23 n30 n31 n32 n33 n34 n35 n36 n37 n38 n39 n40 n50 n51 n52 n53 n54 n55 n71

end Go.Proofs.YtjfoagmenehapaaGreatDoor.Tree

namespace Go.Proofs.YtjfoagmenehapaaGreatDoor.Tree
open Go.RowKit Go.Joins

set_option maxHeartbeats 1000000 in
set_option maxRecDepth 100000 in
theorem sh1 (w : World) : Calls Tryz.prog 28 #[.int .i64 1] w fun e w' => e = .returned (.string ⟨#[]⟩) ∧ w' = w := by
  go_enter Tryz.func28, Tryz.ntmps28
  go_wp2_with fail
  go_ret
  exact ⟨rfl, rfl⟩

set_option maxHeartbeats 1000000 in
set_option maxRecDepth 100000 in
theorem sh3 (w : World) : Calls Tryz.prog 28 #[.int .i64 3] w fun e w' => e = .returned (.string ⟨#[]⟩) ∧ w' = w := by
  go_enter Tryz.func28, Tryz.ntmps28
  go_wp2_with fail
  go_ret
  exact ⟨rfl, rfl⟩

set_option maxHeartbeats 1000000 in
set_option maxRecDepth 100000 in
theorem sh5 (w : World) : Calls Tryz.prog 28 #[.int .i64 5] w fun e w' => e = .returned (.string ⟨#[]⟩) ∧ w' = w := by
  go_enter Tryz.func28, Tryz.ntmps28
  go_wp2_with fail
  go_ret
  exact ⟨rfl, rfl⟩

set_option maxHeartbeats 1000000 in
set_option maxRecDepth 100000 in
theorem sh7 (w : World) : Calls Tryz.prog 28 #[.int .i64 7] w fun e w' => e = .returned (.string ⟨#[112, 43, 32, 101]⟩) ∧ w' = w := by
  go_enter Tryz.func28, Tryz.ntmps28
  go_wp2_with fail
  go_ret
  exact ⟨rfl, rfl⟩

set_option maxHeartbeats 1000000 in
set_option maxRecDepth 100000 in
theorem sh9 (w : World) : Calls Tryz.prog 28 #[.int .i64 9] w fun e w' => e = .returned (.string ⟨#[101, 32, 101, 32, 101]⟩) ∧ w' = w := by
  go_enter Tryz.func28, Tryz.ntmps28
  go_wp2_with fail
  go_ret
  exact ⟨rfl, rfl⟩

set_option maxHeartbeats 1000000 in
set_option maxRecDepth 100000 in
theorem sh11 (w : World) : Calls Tryz.prog 28 #[.int .i64 11] w fun e w' => e = .returned (.string ⟨#[124, 32, 101, 32, 101, 43]⟩) ∧ w' = w := by
  go_enter Tryz.func28, Tryz.ntmps28
  go_wp2_with fail
  go_ret
  exact ⟨rfl, rfl⟩

set_option maxHeartbeats 1000000 in
set_option maxRecDepth 100000 in
theorem sh13 (w : World) : Calls Tryz.prog 28 #[.int .i64 13] w fun e w' => e = .returned (.string ⟨#[101, 32, 101]⟩) ∧ w' = w := by
  go_enter Tryz.func28, Tryz.ntmps28
  go_wp2_with fail
  go_ret
  exact ⟨rfl, rfl⟩

set_option maxHeartbeats 1000000 in
set_option maxRecDepth 100000 in
theorem sh15 (w : World) : Calls Tryz.prog 28 #[.int .i64 15] w fun e w' => e = .returned (.string ⟨#[101]⟩) ∧ w' = w := by
  go_enter Tryz.func28, Tryz.ntmps28
  go_wp2_with fail
  go_ret
  exact ⟨rfl, rfl⟩

set_option maxHeartbeats 1000000 in
set_option maxRecDepth 100000 in
theorem sh17 (w : World) : Calls Tryz.prog 28 #[.int .i64 17] w fun e w' => e = .returned (.string ⟨#[101]⟩) ∧ w' = w := by
  go_enter Tryz.func28, Tryz.ntmps28
  go_wp2_with fail
  go_ret
  exact ⟨rfl, rfl⟩

set_option maxHeartbeats 1000000 in
set_option maxRecDepth 100000 in
theorem sh20 (w : World) : Calls Tryz.prog 28 #[.int .i64 20] w fun e w' => e = .returned (.string ⟨#[101, 32, 100, 42, 32, 124, 32, 103, 117, 97, 114, 100, 43, 32, 100, 42]⟩) ∧ w' = w := by
  go_enter Tryz.func28, Tryz.ntmps28
  go_wp2_with fail
  go_ret
  exact ⟨rfl, rfl⟩

set_option maxHeartbeats 1000000 in
set_option maxRecDepth 100000 in
theorem sh22 (w : World) : Calls Tryz.prog 28 #[.int .i64 22] w fun e w' => e = .returned (.string ⟨#[112, 32, 101]⟩) ∧ w' = w := by
  go_enter Tryz.func28, Tryz.ntmps28
  go_wp2_with fail
  go_ret
  exact ⟨rfl, rfl⟩

set_option maxHeartbeats 1000000 in
set_option maxRecDepth 100000 in
theorem sh30 (w : World) : Calls Tryz.prog 28 #[.int .i64 30] w fun e w' => e = .returned (.string ⟨#[]⟩) ∧ w' = w := by
  go_enter Tryz.func28, Tryz.ntmps28
  go_wp2_with fail
  go_ret
  exact ⟨rfl, rfl⟩

set_option maxHeartbeats 1000000 in
set_option maxRecDepth 100000 in
theorem sh32 (w : World) : Calls Tryz.prog 28 #[.int .i64 32] w fun e w' => e = .returned (.string ⟨#[112, 42]⟩) ∧ w' = w := by
  go_enter Tryz.func28, Tryz.ntmps28
  go_wp2_with fail
  go_ret
  exact ⟨rfl, rfl⟩

set_option maxHeartbeats 1000000 in
set_option maxRecDepth 100000 in
theorem sh34 (w : World) : Calls Tryz.prog 28 #[.int .i64 34] w fun e w' => e = .returned (.string ⟨#[]⟩) ∧ w' = w := by
  go_enter Tryz.func28, Tryz.ntmps28
  go_wp2_with fail
  go_ret
  exact ⟨rfl, rfl⟩

set_option maxHeartbeats 1000000 in
set_option maxRecDepth 100000 in
theorem sh36 (w : World) : Calls Tryz.prog 28 #[.int .i64 36] w fun e w' => e = .returned (.string ⟨#[124, 32, 112, 32, 112, 43]⟩) ∧ w' = w := by
  go_enter Tryz.func28, Tryz.ntmps28
  go_wp2_with fail
  go_ret
  exact ⟨rfl, rfl⟩

set_option maxHeartbeats 1000000 in
set_option maxRecDepth 100000 in
theorem sh38 (w : World) : Calls Tryz.prog 28 #[.int .i64 38] w fun e w' => e = .returned (.string ⟨#[112]⟩) ∧ w' = w := by
  go_enter Tryz.func28, Tryz.ntmps28
  go_wp2_with fail
  go_ret
  exact ⟨rfl, rfl⟩

set_option maxHeartbeats 1000000 in
set_option maxRecDepth 100000 in
theorem sh40 (w : World) : Calls Tryz.prog 28 #[.int .i64 40] w fun e w' => e = .returned (.string ⟨#[112]⟩) ∧ w' = w := by
  go_enter Tryz.func28, Tryz.ntmps28
  go_wp2_with fail
  go_ret
  exact ⟨rfl, rfl⟩

set_option maxHeartbeats 1000000 in
set_option maxRecDepth 100000 in
theorem sh51 (w : World) : Calls Tryz.prog 28 #[.int .i64 51] w fun e w' => e = .returned (.string ⟨#[]⟩) ∧ w' = w := by
  go_enter Tryz.func28, Tryz.ntmps28
  go_wp2_with fail
  go_ret
  exact ⟨rfl, rfl⟩

set_option maxHeartbeats 1000000 in
set_option maxRecDepth 100000 in
theorem sh53 (w : World) : Calls Tryz.prog 28 #[.int .i64 53] w fun e w' => e = .returned (.string ⟨#[116, 32, 116]⟩) ∧ w' = w := by
  go_enter Tryz.func28, Tryz.ntmps28
  go_wp2_with fail
  go_ret
  exact ⟨rfl, rfl⟩

set_option maxHeartbeats 1000000 in
set_option maxRecDepth 100000 in
theorem sh55 (w : World) : Calls Tryz.prog 28 #[.int .i64 55] w fun e w' => e = .returned (.string ⟨#[116]⟩) ∧ w' = w := by
  go_enter Tryz.func28, Tryz.ntmps28
  go_wp2_with fail
  go_ret
  exact ⟨rfl, rfl⟩

end Go.Proofs.YtjfoagmenehapaaGreatDoor.Tree

namespace Go.Proofs.YtjfoagmenehapaaGreatDoor.Tree
open Go.RowKit Go.Joins

set_option maxHeartbeats 1000000 in
set_option maxRecDepth 100000 in
theorem sh2 (w : World) : Calls Tryz.prog 28 #[.int .i64 2] w fun e w' => e = .returned (.string ⟨#[]⟩) ∧ w' = w := by
  go_enter Tryz.func28, Tryz.ntmps28
  go_wp2_with fail
  go_ret
  exact ⟨rfl, rfl⟩

set_option maxHeartbeats 1000000 in
set_option maxRecDepth 100000 in
theorem sh4 (w : World) : Calls Tryz.prog 28 #[.int .i64 4] w fun e w' => e = .returned (.string ⟨#[]⟩) ∧ w' = w := by
  go_enter Tryz.func28, Tryz.ntmps28
  go_wp2_with fail
  go_ret
  exact ⟨rfl, rfl⟩

set_option maxHeartbeats 1000000 in
set_option maxRecDepth 100000 in
theorem sh6 (w : World) : Calls Tryz.prog 28 #[.int .i64 6] w fun e w' => e = .returned (.string ⟨#[101, 32, 101, 43]⟩) ∧ w' = w := by
  go_enter Tryz.func28, Tryz.ntmps28
  go_wp2_with fail
  go_ret
  exact ⟨rfl, rfl⟩

set_option maxHeartbeats 1000000 in
set_option maxRecDepth 100000 in
theorem sh8 (w : World) : Calls Tryz.prog 28 #[.int .i64 8] w fun e w' => e = .returned (.string ⟨#[100, 42, 32, 101]⟩) ∧ w' = w := by
  go_enter Tryz.func28, Tryz.ntmps28
  go_wp2_with fail
  go_ret
  exact ⟨rfl, rfl⟩

set_option maxHeartbeats 1000000 in
set_option maxRecDepth 100000 in
theorem sh10 (w : World) : Calls Tryz.prog 28 #[.int .i64 10] w fun e w' => e = .returned (.string ⟨#[101, 32, 97, 108, 116, 43]⟩) ∧ w' = w := by
  go_enter Tryz.func28, Tryz.ntmps28
  go_wp2_with fail
  go_ret
  exact ⟨rfl, rfl⟩

set_option maxHeartbeats 1000000 in
set_option maxRecDepth 100000 in
theorem sh12 (w : World) : Calls Tryz.prog 28 #[.int .i64 12] w fun e w' => e = .returned (.string ⟨#[101, 42]⟩) ∧ w' = w := by
  go_enter Tryz.func28, Tryz.ntmps28
  go_wp2_with fail
  go_ret
  exact ⟨rfl, rfl⟩

set_option maxHeartbeats 1000000 in
set_option maxRecDepth 100000 in
theorem sh14 (w : World) : Calls Tryz.prog 28 #[.int .i64 14] w fun e w' => e = .returned (.string ⟨#[101, 32, 113, 117, 97, 108, 43]⟩) ∧ w' = w := by
  go_enter Tryz.func28, Tryz.ntmps28
  go_wp2_with fail
  go_ret
  exact ⟨rfl, rfl⟩

set_option maxHeartbeats 1000000 in
set_option maxRecDepth 100000 in
theorem sh16 (w : World) : Calls Tryz.prog 28 #[.int .i64 16] w fun e w' => e = .returned (.string ⟨#[101]⟩) ∧ w' = w := by
  go_enter Tryz.func28, Tryz.ntmps28
  go_wp2_with fail
  go_ret
  exact ⟨rfl, rfl⟩

set_option maxHeartbeats 1000000 in
set_option maxRecDepth 100000 in
theorem sh19 (w : World) : Calls Tryz.prog 28 #[.int .i64 19] w fun e w' => e = .returned (.string ⟨#[112, 32, 114, 104, 115]⟩) ∧ w' = w := by
  go_enter Tryz.func28, Tryz.ntmps28
  go_wp2_with fail
  go_ret
  exact ⟨rfl, rfl⟩

set_option maxHeartbeats 1000000 in
set_option maxRecDepth 100000 in
theorem sh21 (w : World) : Calls Tryz.prog 28 #[.int .i64 21] w fun e w' => e = .returned (.string ⟨#[101, 32, 101]⟩) ∧ w' = w := by
  go_enter Tryz.func28, Tryz.ntmps28
  go_wp2_with fail
  go_ret
  exact ⟨rfl, rfl⟩

set_option maxHeartbeats 1000000 in
set_option maxRecDepth 100000 in
theorem sh23 (w : World) : Calls Tryz.prog 28 #[.int .i64 23] w fun e w' => e = .returned (.string ⟨#[101]⟩) ∧ w' = w := by
  go_enter Tryz.func28, Tryz.ntmps28
  go_wp2_with fail
  go_ret
  exact ⟨rfl, rfl⟩

set_option maxHeartbeats 1000000 in
set_option maxRecDepth 100000 in
theorem sh31 (w : World) : Calls Tryz.prog 28 #[.int .i64 31] w fun e w' => e = .returned (.string ⟨#[]⟩) ∧ w' = w := by
  go_enter Tryz.func28, Tryz.ntmps28
  go_wp2_with fail
  go_ret
  exact ⟨rfl, rfl⟩

set_option maxHeartbeats 1000000 in
set_option maxRecDepth 100000 in
theorem sh33 (w : World) : Calls Tryz.prog 28 #[.int .i64 33] w fun e w' => e = .returned (.string ⟨#[]⟩) ∧ w' = w := by
  go_enter Tryz.func28, Tryz.ntmps28
  go_wp2_with fail
  go_ret
  exact ⟨rfl, rfl⟩

set_option maxHeartbeats 1000000 in
set_option maxRecDepth 100000 in
theorem sh35 (w : World) : Calls Tryz.prog 28 #[.int .i64 35] w fun e w' => e = .returned (.string ⟨#[]⟩) ∧ w' = w := by
  go_enter Tryz.func28, Tryz.ntmps28
  go_wp2_with fail
  go_ret
  exact ⟨rfl, rfl⟩

set_option maxHeartbeats 1000000 in
set_option maxRecDepth 100000 in
theorem sh37 (w : World) : Calls Tryz.prog 28 #[.int .i64 37] w fun e w' => e = .returned (.string ⟨#[112, 42]⟩) ∧ w' = w := by
  go_enter Tryz.func28, Tryz.ntmps28
  go_wp2_with fail
  go_ret
  exact ⟨rfl, rfl⟩

set_option maxHeartbeats 1000000 in
set_option maxRecDepth 100000 in
theorem sh39 (w : World) : Calls Tryz.prog 28 #[.int .i64 39] w fun e w' => e = .returned (.string ⟨#[112]⟩) ∧ w' = w := by
  go_enter Tryz.func28, Tryz.ntmps28
  go_wp2_with fail
  go_ret
  exact ⟨rfl, rfl⟩

set_option maxHeartbeats 1000000 in
set_option maxRecDepth 100000 in
theorem sh50 (w : World) : Calls Tryz.prog 28 #[.int .i64 50] w fun e w' => e = .returned (.string ⟨#[]⟩) ∧ w' = w := by
  go_enter Tryz.func28, Tryz.ntmps28
  go_wp2_with fail
  go_ret
  exact ⟨rfl, rfl⟩

set_option maxHeartbeats 1000000 in
set_option maxRecDepth 100000 in
theorem sh52 (w : World) : Calls Tryz.prog 28 #[.int .i64 52] w fun e w' => e = .returned (.string ⟨#[116, 32, 116, 43]⟩) ∧ w' = w := by
  go_enter Tryz.func28, Tryz.ntmps28
  go_wp2_with fail
  go_ret
  exact ⟨rfl, rfl⟩

set_option maxHeartbeats 1000000 in
set_option maxRecDepth 100000 in
theorem sh54 (w : World) : Calls Tryz.prog 28 #[.int .i64 54] w fun e w' => e = .returned (.string ⟨#[124, 32, 116, 32, 116, 43]⟩) ∧ w' = w := by
  go_enter Tryz.func28, Tryz.ntmps28
  go_wp2_with fail
  go_ret
  exact ⟨rfl, rfl⟩

set_option maxHeartbeats 1000000 in
set_option maxRecDepth 100000 in
theorem sh71 (w : World) : Calls Tryz.prog 28 #[.int .i64 71] w fun e w' => e = .returned (.string ⟨#[]⟩) ∧ w' = w := by
  go_enter Tryz.func28, Tryz.ntmps28
  go_wp2_with fail
  go_ret
  exact ⟨rfl, rfl⟩

end Go.Proofs.YtjfoagmenehapaaGreatDoor.Tree

