import Derived.Test.YtjfoagmenehapaaGreatDoorQ20
import Derived.Test.YtjfoagmenehapaaGreatDoorQ22
import Derived.Test.YtjfoagmenehapaaGreatDoorQ21
namespace Go.Proofs.YtjfoagmenehapaaGreatDoor
open Go.RowKit Go.Joins

set_option maxHeartbeats 1000000 in
set_option maxRecDepth 100000 in
theorem nok2 (t : ByteArray) (a : Option Addr) (n cap : Nat) (w : World) :
    Calls Tryz.prog 30 #[.agg #[.int .i64 2, .string t, .slice a n cap]] w fun e w' => e = .returned (.bool (cn t)) ∧ Below w.heap.size w w' := by
  have b0 : Below w.heap.size w (w.alloc (.cells #[.int .i64 2, .string t, .slice a n cap] 29)) := below_alloc1 _ _
  have HS := hide (mCon t (w.alloc (.cells #[.int .i64 2, .string t, .slice a n cap] 29)))
  generalize cn t = X at *
  go_enter Tryz.func30, Tryz.ntmps30
  go_wp2_with fail
  refine HS.out.mono ?_
  rintro e w2 ⟨rfl, b2⟩
  go_wp2_with fail
  go_ret
  exact ⟨rfl, b0.trans (b2.mono b0.size)⟩

set_option maxHeartbeats 1000000 in
set_option maxRecDepth 100000 in
theorem nok15 (t : ByteArray) (a : Option Addr) (n cap : Nat) (w : World) :
    Calls Tryz.prog 30 #[.agg #[.int .i64 15, .string t, .slice a n cap]] w fun e w' => e = .returned (.bool ((vr t || cn t))) ∧ Below w.heap.size w w' := by
  have b0 : Below w.heap.size w (w.alloc (.cells #[.int .i64 15, .string t, .slice a n cap] 29)) := below_alloc1 _ _
  have HS := hide (mName t (w.alloc (.cells #[.int .i64 15, .string t, .slice a n cap] 29)))
  have HC : Hid (∀ wx, Calls Tryz.prog 50 #[.string t] wx fun e w' => e = .returned (.bool (cn t)) ∧ Below wx.heap.size wx w') := fun wx => mCon t wx
  generalize cn t = Y at *
  rcases z : vr t with _ | _
  · rw [z] at HS
    clear z
    go_enter Tryz.func30, Tryz.ntmps30
    go_wp2_with fail
    refine HS.out.mono ?_
    rintro e w2 ⟨rfl, b2⟩
    have c2 := b0.trans (b2.mono b0.size)
    go_wp2_with fail
    refine (HC.out _).mono ?_
    rintro e w3 ⟨rfl, b3⟩
    go_wp2_with fail
    go_ret
    exact ⟨rfl, c2.trans (b3.mono c2.size)⟩
  · rw [z] at HS
    clear z HC
    go_enter Tryz.func30, Tryz.ntmps30
    go_wp2_with fail
    refine HS.out.mono ?_
    rintro e w2 ⟨rfl, b2⟩
    go_wp2_with fail
    go_ret
    exact ⟨rfl, b0.trans (b2.mono b0.size)⟩

set_option maxHeartbeats 1000000 in
set_option maxRecDepth 100000 in
theorem nok34 (t : ByteArray) (a : Option Addr) (n cap : Nat) (w : World) :
    Calls Tryz.prog 30 #[.agg #[.int .i64 34, .string t, .slice a n cap]] w fun e w' => e = .returned (.bool (tx 6 t)) ∧ Below w.heap.size w w' := by
  have b0 : Below w.heap.size w (w.alloc (.cells #[.int .i64 34, .string t, .slice a n cap] 29)) := below_alloc1 _ _
  have HS := hide (mText 6 t (w.alloc (.cells #[.int .i64 34, .string t, .slice a n cap] 29)))
  generalize tx 6 t = X at *
  go_enter Tryz.func30, Tryz.ntmps30
  go_wp2_with fail
  refine HS.out.mono ?_
  rintro e w2 ⟨rfl, b2⟩
  go_wp2_with fail
  go_ret
  exact ⟨rfl, b0.trans (b2.mono b0.size)⟩

set_option maxHeartbeats 1000000 in
set_option maxRecDepth 100000 in
theorem nok51 (t : ByteArray) (a : Option Addr) (n cap : Nat) (w : World) :
    Calls Tryz.prog 30 #[.agg #[.int .i64 51, .string t, .slice a n cap]] w fun e w' => e = .returned (.bool (tx 2 t)) ∧ Below w.heap.size w w' := by
  have b0 : Below w.heap.size w (w.alloc (.cells #[.int .i64 51, .string t, .slice a n cap] 29)) := below_alloc1 _ _
  have HS := hide (mText 2 t (w.alloc (.cells #[.int .i64 51, .string t, .slice a n cap] 29)))
  generalize tx 2 t = X at *
  go_enter Tryz.func30, Tryz.ntmps30
  go_wp2_with fail
  refine HS.out.mono ?_
  rintro e w2 ⟨rfl, b2⟩
  go_wp2_with fail
  go_ret
  exact ⟨rfl, b0.trans (b2.mono b0.size)⟩

set_option maxHeartbeats 1000000 in
set_option maxRecDepth 100000 in
theorem nok64 (t : ByteArray) (a : Option Addr) (n cap : Nat) (w : World) :
    Calls Tryz.prog 30 #[.agg #[.int .i64 64, .string t, .slice a n cap]] w fun e w' => e = .returned (.bool (tx 2 t)) ∧ Below w.heap.size w w' := by
  have b0 : Below w.heap.size w (w.alloc (.cells #[.int .i64 64, .string t, .slice a n cap] 29)) := below_alloc1 _ _
  have HS := hide (mText 2 t (w.alloc (.cells #[.int .i64 64, .string t, .slice a n cap] 29)))
  generalize tx 2 t = X at *
  go_enter Tryz.func30, Tryz.ntmps30
  go_wp2_with fail
  refine HS.out.mono ?_
  rintro e w2 ⟨rfl, b2⟩
  go_wp2_with fail
  go_ret
  exact ⟨rfl, b0.trans (b2.mono b0.size)⟩

set_option maxHeartbeats 1000000 in
set_option maxRecDepth 100000 in
theorem nok68 (t : ByteArray) (a : Option Addr) (n cap : Nat) (w : World) :
    Calls Tryz.prog 30 #[.agg #[.int .i64 68, .string t, .slice a n cap]] w fun e w' => e = .returned (.bool (tx 2 t)) ∧ Below w.heap.size w w' := by
  have b0 : Below w.heap.size w (w.alloc (.cells #[.int .i64 68, .string t, .slice a n cap] 29)) := below_alloc1 _ _
  have HS := hide (mText 2 t (w.alloc (.cells #[.int .i64 68, .string t, .slice a n cap] 29)))
  generalize tx 2 t = X at *
  go_enter Tryz.func30, Tryz.ntmps30
  go_wp2_with fail
  refine HS.out.mono ?_
  rintro e w2 ⟨rfl, b2⟩
  go_wp2_with fail
  go_ret
  exact ⟨rfl, b0.trans (b2.mono b0.size)⟩

end Go.Proofs.YtjfoagmenehapaaGreatDoor

namespace Go.Proofs.YtjfoagmenehapaaGreatDoor
open Go.RowKit Go.Joins

set_option maxHeartbeats 1000000 in
set_option maxRecDepth 100000 in
theorem nok3 (t : ByteArray) (a : Option Addr) (n cap : Nat) (w : World) :
    Calls Tryz.prog 30 #[.agg #[.int .i64 3, .string t, .slice a n cap]] w fun e w' => e = .returned (.bool (tx 5 t)) ∧ Below w.heap.size w w' := by
  have b0 : Below w.heap.size w (w.alloc (.cells #[.int .i64 3, .string t, .slice a n cap] 29)) := below_alloc1 _ _
  have HS := hide (mDig t (w.alloc (.cells #[.int .i64 3, .string t, .slice a n cap] 29)))
  generalize tx 5 t = X at *
  go_enter Tryz.func30, Tryz.ntmps30
  go_wp2_with fail
  refine HS.out.mono ?_
  rintro e w2 ⟨rfl, b2⟩
  go_wp2_with fail
  go_ret
  exact ⟨rfl, b0.trans (b2.mono b0.size)⟩

set_option maxHeartbeats 1000000 in
set_option maxRecDepth 100000 in
theorem nok16 (t : ByteArray) (a : Option Addr) (n cap : Nat) (w : World) :
    Calls Tryz.prog 30 #[.agg #[.int .i64 16, .string t, .slice a n cap]] w fun e w' => e = .returned (.bool ((vr t || cn t))) ∧ Below w.heap.size w w' := by
  have b0 : Below w.heap.size w (w.alloc (.cells #[.int .i64 16, .string t, .slice a n cap] 29)) := below_alloc1 _ _
  have HS := hide (mName t (w.alloc (.cells #[.int .i64 16, .string t, .slice a n cap] 29)))
  have HC : Hid (∀ wx, Calls Tryz.prog 50 #[.string t] wx fun e w' => e = .returned (.bool (cn t)) ∧ Below wx.heap.size wx w') := fun wx => mCon t wx
  generalize cn t = Y at *
  rcases z : vr t with _ | _
  · rw [z] at HS
    clear z
    go_enter Tryz.func30, Tryz.ntmps30
    go_wp2_with fail
    refine HS.out.mono ?_
    rintro e w2 ⟨rfl, b2⟩
    have c2 := b0.trans (b2.mono b0.size)
    go_wp2_with fail
    refine (HC.out _).mono ?_
    rintro e w3 ⟨rfl, b3⟩
    go_wp2_with fail
    go_ret
    exact ⟨rfl, c2.trans (b3.mono c2.size)⟩
  · rw [z] at HS
    clear z HC
    go_enter Tryz.func30, Tryz.ntmps30
    go_wp2_with fail
    refine HS.out.mono ?_
    rintro e w2 ⟨rfl, b2⟩
    go_wp2_with fail
    go_ret
    exact ⟨rfl, b0.trans (b2.mono b0.size)⟩

set_option maxHeartbeats 1000000 in
set_option maxRecDepth 100000 in
theorem nok35 (t : ByteArray) (a : Option Addr) (n cap : Nat) (w : World) :
    Calls Tryz.prog 30 #[.agg #[.int .i64 35, .string t, .slice a n cap]] w fun e w' => e = .returned (.bool (tx 7 t)) ∧ Below w.heap.size w w' := by
  have b0 : Below w.heap.size w (w.alloc (.cells #[.int .i64 35, .string t, .slice a n cap] 29)) := below_alloc1 _ _
  have HS := hide (mText 7 t (w.alloc (.cells #[.int .i64 35, .string t, .slice a n cap] 29)))
  generalize tx 7 t = X at *
  go_enter Tryz.func30, Tryz.ntmps30
  go_wp2_with fail
  refine HS.out.mono ?_
  rintro e w2 ⟨rfl, b2⟩
  go_wp2_with fail
  go_ret
  exact ⟨rfl, b0.trans (b2.mono b0.size)⟩

set_option maxHeartbeats 1000000 in
set_option maxRecDepth 100000 in
theorem nok61 (t : ByteArray) (a : Option Addr) (n cap : Nat) (w : World) :
    Calls Tryz.prog 30 #[.agg #[.int .i64 61, .string t, .slice a n cap]] w fun e w' => e = .returned (.bool (vr t)) ∧ Below w.heap.size w w' := by
  have b0 : Below w.heap.size w (w.alloc (.cells #[.int .i64 61, .string t, .slice a n cap] 29)) := below_alloc1 _ _
  have HS := hide (mName t (w.alloc (.cells #[.int .i64 61, .string t, .slice a n cap] 29)))
  generalize vr t = X at *
  go_enter Tryz.func30, Tryz.ntmps30
  go_wp2_with fail
  refine HS.out.mono ?_
  rintro e w2 ⟨rfl, b2⟩
  go_wp2_with fail
  go_ret
  exact ⟨rfl, b0.trans (b2.mono b0.size)⟩

set_option maxHeartbeats 1000000 in
set_option maxRecDepth 100000 in
theorem nok65 (t : ByteArray) (a : Option Addr) (n cap : Nat) (w : World) :
    Calls Tryz.prog 30 #[.agg #[.int .i64 65, .string t, .slice a n cap]] w fun e w' => e = .returned (.bool (tx 2 t)) ∧ Below w.heap.size w w' := by
  have b0 : Below w.heap.size w (w.alloc (.cells #[.int .i64 65, .string t, .slice a n cap] 29)) := below_alloc1 _ _
  have HS := hide (mText 2 t (w.alloc (.cells #[.int .i64 65, .string t, .slice a n cap] 29)))
  generalize tx 2 t = X at *
  go_enter Tryz.func30, Tryz.ntmps30
  go_wp2_with fail
  refine HS.out.mono ?_
  rintro e w2 ⟨rfl, b2⟩
  go_wp2_with fail
  go_ret
  exact ⟨rfl, b0.trans (b2.mono b0.size)⟩

set_option maxHeartbeats 1000000 in
set_option maxRecDepth 100000 in
theorem nok70 (t : ByteArray) (a : Option Addr) (n cap : Nat) (w : World) :
    Calls Tryz.prog 30 #[.agg #[.int .i64 70, .string t, .slice a n cap]] w fun e w' => e = .returned (.bool ((t.toList.isEmpty || t.toList == [97, 108, 108]))) ∧ Below w.heap.size w w' := by
  have b0 : Below w.heap.size w (w.alloc (.cells #[.int .i64 70, .string t, .slice a n cap] 29)) := below_alloc1 _ _
  rcases z1 : t.toList.isEmpty with _ | _
  · rcases z2 : (t.toList == [97, 108, 108]) with _ | _
    all_goals
      go_enter Tryz.func30, Tryz.ntmps30
      go_wp2_with fail
      go_ret
      exact ⟨rfl, b0⟩
  · go_enter Tryz.func30, Tryz.ntmps30
    go_wp2_with fail
    go_ret
    exact ⟨rfl, b0⟩

end Go.Proofs.YtjfoagmenehapaaGreatDoor

namespace Go.Proofs.YtjfoagmenehapaaGreatDoor
open Go.RowKit Go.Joins

set_option maxHeartbeats 1000000 in
set_option maxRecDepth 100000 in
theorem nok4 (t : ByteArray) (a : Option Addr) (n cap : Nat) (w : World) :
    Calls Tryz.prog 30 #[.agg #[.int .i64 4, .string t, .slice a n cap]] w fun e w' => e = .returned (.bool (tx 6 t)) ∧ Below w.heap.size w w' := by
  have b0 : Below w.heap.size w (w.alloc (.cells #[.int .i64 4, .string t, .slice a n cap] 29)) := below_alloc1 _ _
  have HS := hide (mText 6 t (w.alloc (.cells #[.int .i64 4, .string t, .slice a n cap] 29)))
  generalize tx 6 t = X at *
  go_enter Tryz.func30, Tryz.ntmps30
  go_wp2_with fail
  refine HS.out.mono ?_
  rintro e w2 ⟨rfl, b2⟩
  go_wp2_with fail
  go_ret
  exact ⟨rfl, b0.trans (b2.mono b0.size)⟩

set_option maxHeartbeats 1000000 in
set_option maxRecDepth 100000 in
theorem nok30 (t : ByteArray) (a : Option Addr) (n cap : Nat) (w : World) :
    Calls Tryz.prog 30 #[.agg #[.int .i64 30, .string t, .slice a n cap]] w fun e w' => e = .returned (.bool (tx 1 t)) ∧ Below w.heap.size w w' := by
  have b0 : Below w.heap.size w (w.alloc (.cells #[.int .i64 30, .string t, .slice a n cap] 29)) := below_alloc1 _ _
  have HS := hide (mText 1 t (w.alloc (.cells #[.int .i64 30, .string t, .slice a n cap] 29)))
  generalize tx 1 t = X at *
  go_enter Tryz.func30, Tryz.ntmps30
  go_wp2_with fail
  refine HS.out.mono ?_
  rintro e w2 ⟨rfl, b2⟩
  go_wp2_with fail
  go_ret
  exact ⟨rfl, b0.trans (b2.mono b0.size)⟩

set_option maxHeartbeats 1000000 in
set_option maxRecDepth 100000 in
theorem nok38 (t : ByteArray) (a : Option Addr) (n cap : Nat) (w : World) :
    Calls Tryz.prog 30 #[.agg #[.int .i64 38, .string t, .slice a n cap]] w fun e w' => e = .returned (.bool (tx 1 t)) ∧ Below w.heap.size w w' := by
  have b0 : Below w.heap.size w (w.alloc (.cells #[.int .i64 38, .string t, .slice a n cap] 29)) := below_alloc1 _ _
  have HS := hide (mText 1 t (w.alloc (.cells #[.int .i64 38, .string t, .slice a n cap] 29)))
  generalize tx 1 t = X at *
  go_enter Tryz.func30, Tryz.ntmps30
  go_wp2_with fail
  refine HS.out.mono ?_
  rintro e w2 ⟨rfl, b2⟩
  go_wp2_with fail
  go_ret
  exact ⟨rfl, b0.trans (b2.mono b0.size)⟩

set_option maxHeartbeats 1000000 in
set_option maxRecDepth 100000 in
theorem nok62 (t : ByteArray) (a : Option Addr) (n cap : Nat) (w : World) :
    Calls Tryz.prog 30 #[.agg #[.int .i64 62, .string t, .slice a n cap]] w fun e w' => e = .returned (.bool (fixN t)) ∧ Below w.heap.size w w' := by
  have b0 : Below w.heap.size w (w.alloc (.cells #[.int .i64 62, .string t, .slice a n cap] 29)) := below_alloc1 _ _
  unfold fixN
  rcases z1 : (t.toList == [105, 110, 102, 105, 120]) with _ | _
  · rcases z2 : (t.toList == [105, 110, 102, 105, 120, 108]) with _ | _
    · rcases z3 : (t.toList == [105, 110, 102, 105, 120, 114]) with _ | _
      all_goals
        go_enter Tryz.func30, Tryz.ntmps30
        go_wp2_with fail
        go_ret
        exact ⟨rfl, b0⟩
    · go_enter Tryz.func30, Tryz.ntmps30
      go_wp2_with fail
      go_ret
      exact ⟨rfl, b0⟩
  · go_enter Tryz.func30, Tryz.ntmps30
    go_wp2_with fail
    go_ret
    exact ⟨rfl, b0⟩

set_option maxHeartbeats 1000000 in
set_option maxRecDepth 100000 in
theorem nok66 (t : ByteArray) (a : Option Addr) (n cap : Nat) (w : World) :
    Calls Tryz.prog 30 #[.agg #[.int .i64 66, .string t, .slice a n cap]] w fun e w' => e = .returned (.bool (tx 2 t)) ∧ Below w.heap.size w w' := by
  have b0 : Below w.heap.size w (w.alloc (.cells #[.int .i64 66, .string t, .slice a n cap] 29)) := below_alloc1 _ _
  have HS := hide (mText 2 t (w.alloc (.cells #[.int .i64 66, .string t, .slice a n cap] 29)))
  generalize tx 2 t = X at *
  go_enter Tryz.func30, Tryz.ntmps30
  go_wp2_with fail
  refine HS.out.mono ?_
  rintro e w2 ⟨rfl, b2⟩
  go_wp2_with fail
  go_ret
  exact ⟨rfl, b0.trans (b2.mono b0.size)⟩

set_option maxHeartbeats 1000000 in
set_option maxRecDepth 100000 in
theorem nok71 (t : ByteArray) (a : Option Addr) (n cap : Nat) (w : World) :
    Calls Tryz.prog 30 #[.agg #[.int .i64 71, .string t, .slice a n cap]] w fun e w' => e = .returned (.bool ((vr t || cn t))) ∧ Below w.heap.size w w' := by
  have b0 : Below w.heap.size w (w.alloc (.cells #[.int .i64 71, .string t, .slice a n cap] 29)) := below_alloc1 _ _
  have HS := hide (mName t (w.alloc (.cells #[.int .i64 71, .string t, .slice a n cap] 29)))
  have HC : Hid (∀ wx, Calls Tryz.prog 50 #[.string t] wx fun e w' => e = .returned (.bool (cn t)) ∧ Below wx.heap.size wx w') := fun wx => mCon t wx
  generalize cn t = Y at *
  rcases z : vr t with _ | _
  · rw [z] at HS
    clear z
    go_enter Tryz.func30, Tryz.ntmps30
    go_wp2_with fail
    refine HS.out.mono ?_
    rintro e w2 ⟨rfl, b2⟩
    have c2 := b0.trans (b2.mono b0.size)
    go_wp2_with fail
    refine (HC.out _).mono ?_
    rintro e w3 ⟨rfl, b3⟩
    go_wp2_with fail
    go_ret
    exact ⟨rfl, c2.trans (b3.mono c2.size)⟩
  · rw [z] at HS
    clear z HC
    go_enter Tryz.func30, Tryz.ntmps30
    go_wp2_with fail
    refine HS.out.mono ?_
    rintro e w2 ⟨rfl, b2⟩
    go_wp2_with fail
    go_ret
    exact ⟨rfl, b0.trans (b2.mono b0.size)⟩

set_option maxHeartbeats 1000000 in
set_option maxRecDepth 100000 in
theorem nokElse (k : Int) (t : ByteArray) (a : Option Addr) (n cap : Nat) (w : World) (n1 : k ≠ 1) (n2 : k ≠ 2) (n3 : k ≠ 3) (n4 : k ≠ 4) (n5 : k ≠ 5) (n15 : k ≠ 15) (n16 : k ≠ 16) (n30 : k ≠ 30) (n32 : k ≠ 32) (n33 : k ≠ 33) (n34 : k ≠ 34) (n35 : k ≠ 35) (n38 : k ≠ 38) (n50 : k ≠ 50) (n51 : k ≠ 51) (n61 : k ≠ 61) (n62 : k ≠ 62) (n63 : k ≠ 63) (n64 : k ≠ 64) (n65 : k ≠ 65) (n66 : k ≠ 66) (n67 : k ≠ 67) (n68 : k ≠ 68) (n70 : k ≠ 70) (n71 : k ≠ 71) :
    Calls Tryz.prog 30 #[.agg #[.int .i64 k, .string t, .slice a n cap]] w fun e w' => e = .returned (.bool t.toList.isEmpty) ∧ Below w.heap.size w w' := by
  have b0 : Below w.heap.size w (w.alloc (.cells #[.int .i64 k, .string t, .slice a n cap] 29)) := below_alloc1 _ _
  have z1 : (k == 1) = false := beq_eq_false_iff_ne.2 n1
  have z2 : (k == 2) = false := beq_eq_false_iff_ne.2 n2
  have z3 : (k == 3) = false := beq_eq_false_iff_ne.2 n3
  have z4 : (k == 4) = false := beq_eq_false_iff_ne.2 n4
  have z5 : (k == 5) = false := beq_eq_false_iff_ne.2 n5
  have z15 : (k == 15) = false := beq_eq_false_iff_ne.2 n15
  have z16 : (k == 16) = false := beq_eq_false_iff_ne.2 n16
  have z30 : (k == 30) = false := beq_eq_false_iff_ne.2 n30
  have z32 : (k == 32) = false := beq_eq_false_iff_ne.2 n32
  have z33 : (k == 33) = false := beq_eq_false_iff_ne.2 n33
  have z34 : (k == 34) = false := beq_eq_false_iff_ne.2 n34
  have z35 : (k == 35) = false := beq_eq_false_iff_ne.2 n35
  have z38 : (k == 38) = false := beq_eq_false_iff_ne.2 n38
  have z50 : (k == 50) = false := beq_eq_false_iff_ne.2 n50
  have z51 : (k == 51) = false := beq_eq_false_iff_ne.2 n51
  have z61 : (k == 61) = false := beq_eq_false_iff_ne.2 n61
  have z62 : (k == 62) = false := beq_eq_false_iff_ne.2 n62
  have z63 : (k == 63) = false := beq_eq_false_iff_ne.2 n63
  have z64 : (k == 64) = false := beq_eq_false_iff_ne.2 n64
  have z65 : (k == 65) = false := beq_eq_false_iff_ne.2 n65
  have z66 : (k == 66) = false := beq_eq_false_iff_ne.2 n66
  have z67 : (k == 67) = false := beq_eq_false_iff_ne.2 n67
  have z68 : (k == 68) = false := beq_eq_false_iff_ne.2 n68
  have z70 : (k == 70) = false := beq_eq_false_iff_ne.2 n70
  have z71 : (k == 71) = false := beq_eq_false_iff_ne.2 n71
  clear n1 n2 n3 n4 n5 n15 n16 n30 n32 n33 n34 n35 n38 n50 n51 n61 n62 n63 n64 n65 n66 n67 n68 n70 n71
  go_enter Tryz.func30, Tryz.ntmps30
  go_wp2_with fail
  go_ret
  exact ⟨rfl, b0⟩

end Go.Proofs.YtjfoagmenehapaaGreatDoor

namespace Go.Proofs.YtjfoagmenehapaaGreatDoor
open Go.RowKit Go.Joins

/-- What a kind asks of its name (the last one: whether there are no kids). -/
def nameT : List (Int × (ByteArray → Bool → Bool)) := [(1, fun t _ => vr t), (2, fun t _ => cn t), (3, fun t _ => tx 5 t), (4, fun t _ => tx 6 t), (5, fun t _ => tx 7 t), (15, fun t _ => (vr t || cn t)), (16, fun t _ => (vr t || cn t)), (30, fun t _ => tx 1 t), (32, fun t _ => cn t), (33, fun t _ => sg t), (34, fun t _ => tx 6 t), (35, fun t _ => tx 7 t), (38, fun t _ => tx 1 t), (50, fun t _ => tx 1 t), (51, fun t _ => tx 2 t), (61, fun t _ => vr t), (62, fun t _ => fixN t), (63, fun t _ => tx 2 t), (64, fun t _ => tx 2 t), (65, fun t _ => tx 2 t), (66, fun t _ => tx 2 t), (67, fun t _ => tx 2 t), (68, fun t _ => tx 2 t), (70, fun t b => t.toList.isEmpty || (t.toList == [97, 108, 108] && b)), (71, fun t _ => (vr t || cn t))]
def nmF (k : Int) (t : ByteArray) (b : Bool) : Bool := match nameT.find? (fun e => e.1 == k) with
  | some e => e.2 t b
  | none => t.toList.isEmpty

theorem nmF_else (k : Int) (t : ByteArray) (b : Bool) (n1 : k ≠ 1) (n2 : k ≠ 2) (n3 : k ≠ 3) (n4 : k ≠ 4) (n5 : k ≠ 5) (n15 : k ≠ 15) (n16 : k ≠ 16) (n30 : k ≠ 30) (n32 : k ≠ 32) (n33 : k ≠ 33) (n34 : k ≠ 34) (n35 : k ≠ 35) (n38 : k ≠ 38) (n50 : k ≠ 50) (n51 : k ≠ 51) (n61 : k ≠ 61) (n62 : k ≠ 62) (n63 : k ≠ 63) (n64 : k ≠ 64) (n65 : k ≠ 65) (n66 : k ≠ 66) (n67 : k ≠ 67) (n68 : k ≠ 68) (n70 : k ≠ 70) (n71 : k ≠ 71) : nmF k t b = t.toList.isEmpty := by
  have h : nameT.find? (fun e => e.1 == k) = none := by
    unfold nameT
    simp only [List.find?_eq_none, List.mem_cons, List.not_mem_nil, or_false, forall_eq_or_imp, forall_eq, beq_iff_eq]
    exact ⟨Ne.symm n1, Ne.symm n2, Ne.symm n3, Ne.symm n4, Ne.symm n5, Ne.symm n15, Ne.symm n16, Ne.symm n30, Ne.symm n32, Ne.symm n33, Ne.symm n34, Ne.symm n35, Ne.symm n38, Ne.symm n50, Ne.symm n51, Ne.symm n61, Ne.symm n62, Ne.symm n63, Ne.symm n64, Ne.symm n65, Ne.symm n66, Ne.symm n67, Ne.symm n68, Ne.symm n70, Ne.symm n71⟩
  unfold nmF
  rw [h]
theorem nmF1 (t : ByteArray) (b : Bool) : nmF 1 t b = (vr t) := rfl
theorem nmF2 (t : ByteArray) (b : Bool) : nmF 2 t b = (cn t) := rfl
theorem nmF3 (t : ByteArray) (b : Bool) : nmF 3 t b = (tx 5 t) := rfl
theorem nmF4 (t : ByteArray) (b : Bool) : nmF 4 t b = (tx 6 t) := rfl
theorem nmF5 (t : ByteArray) (b : Bool) : nmF 5 t b = (tx 7 t) := rfl
theorem nmF15 (t : ByteArray) (b : Bool) : nmF 15 t b = ((vr t || cn t)) := rfl
theorem nmF16 (t : ByteArray) (b : Bool) : nmF 16 t b = ((vr t || cn t)) := rfl
theorem nmF30 (t : ByteArray) (b : Bool) : nmF 30 t b = (tx 1 t) := rfl
theorem nmF32 (t : ByteArray) (b : Bool) : nmF 32 t b = (cn t) := rfl
theorem nmF33 (t : ByteArray) (b : Bool) : nmF 33 t b = (sg t) := rfl
theorem nmF34 (t : ByteArray) (b : Bool) : nmF 34 t b = (tx 6 t) := rfl
theorem nmF35 (t : ByteArray) (b : Bool) : nmF 35 t b = (tx 7 t) := rfl
theorem nmF38 (t : ByteArray) (b : Bool) : nmF 38 t b = (tx 1 t) := rfl
theorem nmF50 (t : ByteArray) (b : Bool) : nmF 50 t b = (tx 1 t) := rfl
theorem nmF51 (t : ByteArray) (b : Bool) : nmF 51 t b = (tx 2 t) := rfl
theorem nmF61 (t : ByteArray) (b : Bool) : nmF 61 t b = (vr t) := rfl
theorem nmF62 (t : ByteArray) (b : Bool) : nmF 62 t b = (fixN t) := rfl
theorem nmF63 (t : ByteArray) (b : Bool) : nmF 63 t b = (tx 2 t) := rfl
theorem nmF64 (t : ByteArray) (b : Bool) : nmF 64 t b = (tx 2 t) := rfl
theorem nmF65 (t : ByteArray) (b : Bool) : nmF 65 t b = (tx 2 t) := rfl
theorem nmF66 (t : ByteArray) (b : Bool) : nmF 66 t b = (tx 2 t) := rfl
theorem nmF67 (t : ByteArray) (b : Bool) : nmF 67 t b = (tx 2 t) := rfl
theorem nmF68 (t : ByteArray) (b : Bool) : nmF 68 t b = (tx 2 t) := rfl
theorem nmF70 (t : ByteArray) (b : Bool) : nmF 70 t b = ((t.toList.isEmpty || (t.toList == [97, 108, 108] && b))) := rfl
theorem nmF71 (t : ByteArray) (b : Bool) : nmF 71 t b = ((vr t || cn t)) := rfl

set_option maxRecDepth 100000 in
theorem mNameOk (k : Int) (t : ByteArray) (a : Option Addr) (n cap : Nat) (w : World) :
    Calls Tryz.prog 30 #[.agg #[.int .i64 k, .string t, .slice a n cap]] w fun e w' => e = .returned (.bool (nmF k t true)) ∧ Below w.heap.size w w' := by
  by_cases n1 : k = 1
  · subst n1
    rw [nmF1]; exact nok1 t a n cap w
  by_cases n2 : k = 2
  · subst n2
    rw [nmF2]; exact nok2 t a n cap w
  by_cases n3 : k = 3
  · subst n3
    rw [nmF3]; exact nok3 t a n cap w
  by_cases n4 : k = 4
  · subst n4
    rw [nmF4]; exact nok4 t a n cap w
  by_cases n5 : k = 5
  · subst n5
    rw [nmF5]; exact nok5 t a n cap w
  by_cases n15 : k = 15
  · subst n15
    rw [nmF15]; exact nok15 t a n cap w
  by_cases n16 : k = 16
  · subst n16
    rw [nmF16]; exact nok16 t a n cap w
  by_cases n30 : k = 30
  · subst n30
    rw [nmF30]; exact nok30 t a n cap w
  by_cases n32 : k = 32
  · subst n32
    rw [nmF32]; exact nok32 t a n cap w
  by_cases n33 : k = 33
  · subst n33
    rw [nmF33]; exact nok33 t a n cap w
  by_cases n34 : k = 34
  · subst n34
    rw [nmF34]; exact nok34 t a n cap w
  by_cases n35 : k = 35
  · subst n35
    rw [nmF35]; exact nok35 t a n cap w
  by_cases n38 : k = 38
  · subst n38
    rw [nmF38]; exact nok38 t a n cap w
  by_cases n50 : k = 50
  · subst n50
    rw [nmF50]; exact nok50 t a n cap w
  by_cases n51 : k = 51
  · subst n51
    rw [nmF51]; exact nok51 t a n cap w
  by_cases n61 : k = 61
  · subst n61
    rw [nmF61]; exact nok61 t a n cap w
  by_cases n62 : k = 62
  · subst n62
    rw [nmF62]; exact nok62 t a n cap w
  by_cases n63 : k = 63
  · subst n63
    rw [nmF63]; exact nok63 t a n cap w
  by_cases n64 : k = 64
  · subst n64
    rw [nmF64]; exact nok64 t a n cap w
  by_cases n65 : k = 65
  · subst n65
    rw [nmF65]; exact nok65 t a n cap w
  by_cases n66 : k = 66
  · subst n66
    rw [nmF66]; exact nok66 t a n cap w
  by_cases n67 : k = 67
  · subst n67
    rw [nmF67]; exact nok67 t a n cap w
  by_cases n68 : k = 68
  · subst n68
    rw [nmF68]; exact nok68 t a n cap w
  by_cases n70 : k = 70
  · subst n70
    rw [nmF70, Bool.and_true]; exact nok70 t a n cap w
  by_cases n71 : k = 71
  · subst n71
    rw [nmF71]; exact nok71 t a n cap w
  rw [nmF_else k t true n1 n2 n3 n4 n5 n15 n16 n30 n32 n33 n34 n35 n38 n50 n51 n61 n62 n63 n64 n65 n66 n67 n68 n70 n71]; exact nokElse k t a n cap w n1 n2 n3 n4 n5 n15 n16 n30 n32 n33 n34 n35 n38 n50 n51 n61 n62 n63 n64 n65 n66 n67 n68 n70 n71

set_option maxRecDepth 100000 in
theorem iFit (mb : Nat) (k : Int) (t : ByteArray) (a : Option Addr) (n cap : Nat) (w : World) (hm : mb < w.heap.size) (hK : KM w mb) :
    Calls Tryz.prog 16 #[.agg #[.map (some mb)], .agg #[.int .i64 k, .string t, .slice a n cap]] w fun e w' => e = .returned (.bool (nmF k t (n == 0))) ∧ Below w.heap.size w w' := by
  by_cases n1 : k = 1
  · subst n1
    rw [nmF1]; exact fit1 mb t a n cap w hm hK
  by_cases n2 : k = 2
  · subst n2
    rw [nmF2]; exact fit2 mb t a n cap w hm hK
  by_cases n3 : k = 3
  · subst n3
    rw [nmF3]; exact fit3 mb t a n cap w hm hK
  by_cases n4 : k = 4
  · subst n4
    rw [nmF4]; exact fit4 mb t a n cap w hm hK
  by_cases n5 : k = 5
  · subst n5
    rw [nmF5]; exact fit5 mb t a n cap w hm hK
  by_cases n15 : k = 15
  · subst n15
    rw [nmF15]; exact fit15 mb t a n cap w hm hK
  by_cases n16 : k = 16
  · subst n16
    rw [nmF16]; exact fit16 mb t a n cap w hm hK
  by_cases n30 : k = 30
  · subst n30
    rw [nmF30]; exact fit30 mb t a n cap w hm hK
  by_cases n32 : k = 32
  · subst n32
    rw [nmF32]; exact fit32 mb t a n cap w hm hK
  by_cases n33 : k = 33
  · subst n33
    rw [nmF33]; exact fit33 mb t a n cap w hm hK
  by_cases n34 : k = 34
  · subst n34
    rw [nmF34]; exact fit34 mb t a n cap w hm hK
  by_cases n35 : k = 35
  · subst n35
    rw [nmF35]; exact fit35 mb t a n cap w hm hK
  by_cases n38 : k = 38
  · subst n38
    rw [nmF38]; exact fit38 mb t a n cap w hm hK
  by_cases n50 : k = 50
  · subst n50
    rw [nmF50]; exact fit50 mb t a n cap w hm hK
  by_cases n51 : k = 51
  · subst n51
    rw [nmF51]; exact fit51 mb t a n cap w hm hK
  by_cases n61 : k = 61
  · subst n61
    rw [nmF61]; exact fit61 mb t a n cap w hm hK
  by_cases n62 : k = 62
  · subst n62
    rw [nmF62]; exact fit62 mb t a n cap w
  by_cases n63 : k = 63
  · subst n63
    rw [nmF63]; exact fit63 mb t a n cap w hm hK
  by_cases n64 : k = 64
  · subst n64
    rw [nmF64]; exact fit64 mb t a n cap w hm hK
  by_cases n65 : k = 65
  · subst n65
    rw [nmF65]; exact fit65 mb t a n cap w hm hK
  by_cases n66 : k = 66
  · subst n66
    rw [nmF66]; exact fit66 mb t a n cap w hm hK
  by_cases n67 : k = 67
  · subst n67
    rw [nmF67]; exact fit67 mb t a n cap w hm hK
  by_cases n68 : k = 68
  · subst n68
    rw [nmF68]; exact fit68 mb t a n cap w hm hK
  by_cases n70 : k = 70
  · subst n70
    rw [nmF70]; exact fit70 mb t a n cap w
  by_cases n71 : k = 71
  · subst n71
    rw [nmF71]; exact fit71 mb t a n cap w hm hK
  rw [nmF_else k t (n == 0) n1 n2 n3 n4 n5 n15 n16 n30 n32 n33 n34 n35 n38 n50 n51 n61 n62 n63 n64 n65 n66 n67 n68 n70 n71]; exact fitElse mb k t a n cap w n1 n2 n3 n4 n5 n15 n16 n30 n32 n33 n34 n35 n38 n50 n51 n61 n62 n63 n64 n65 n66 n67 n68 n70 n71

end Go.Proofs.YtjfoagmenehapaaGreatDoor

namespace Go.Proofs.YtjfoagmenehapaaGreatDoor.Tree
open Go.RowKit Go.Joins

set_option maxHeartbeats 1000000 in
set_option maxRecDepth 100000 in
theorem kid1 (nm : ByteArray) (a : Option Addr) (cap n : Nat) (L : List Kn) (W : World) (hl : L.length = n) (hn : n ≤ maxLen) (_hk : Kids W W.heap.size a L) :
    Calls Tryz.prog 31 #[nodeV 1 nm a n cap] W fun e W' => e = .returned (.bool (n == 0)) ∧ Below W.heap.size W W' := by
  obtain ⟨T, hT⟩ : ∃ T, T = (n == 0) := ⟨_, rfl⟩
  rw [← hT]
  have hmx : (n : Int) ≤ 9223372036854775807 := by simp only [maxLen] at hn; omega
  by_cases h0 : n = 0
  · subst h0
    have HT := hide hT
    clear hT
    unfold nodeV
    have q1 := Box3.new W (.int .i64 1) (.string nm) (.slice (a) 0 cap) 29
    have hB0 : Below W.heap.size W (W.alloc (.cells #[.int .i64 1, .string nm, .slice (a) 0 cap] 29)) := below_alloc1 _ _
    clear hl hn
    go_enter Tryz.func31, Tryz.ntmps31
    go_upto_region 1 with fail
    generalize W.alloc (.cells #[.int .i64 1, .string nm, .slice (a) 0 cap] 29) = W0 at *
    have qlt := q1.lt
    obtain ⟨-, d0, d1, d2, -, -, -⟩ := id q1
    go_wp2_with fail
    go_ret
    exact ⟨by rw [HT.out]; rfl, hB0⟩
  · have z0 : ((n : Int) == 0) = false := beq_eq_false_iff_ne.2 (by omega)
    have zz0 : (n == 0) = false := beq_eq_false_iff_ne.2 h0
    rw [zz0] at hT
    clear zz0
    have HT := hide hT
    clear hT
    unfold nodeV
    have q1 := Box3.new W (.int .i64 1) (.string nm) (.slice (a) n cap) 29
    have hB0 : Below W.heap.size W (W.alloc (.cells #[.int .i64 1, .string nm, .slice (a) n cap] 29)) := below_alloc1 _ _
    clear hl hn
    go_enter Tryz.func31, Tryz.ntmps31
    go_upto_region 1 with fail
    generalize W.alloc (.cells #[.int .i64 1, .string nm, .slice (a) n cap] 29) = W0 at *
    have qlt := q1.lt
    obtain ⟨-, d0, d1, d2, -, -, -⟩ := id q1
    go_wp2_with fail
    go_ret
    exact ⟨by rw [HT.out]; rfl, hB0⟩

set_option maxHeartbeats 1000000 in
set_option maxRecDepth 100000 in
theorem kid2 (nm : ByteArray) (a : Option Addr) (cap n : Nat) (L : List Kn) (W : World) (hl : L.length = n) (hn : n ≤ maxLen) (_hk : Kids W W.heap.size a L) :
    Calls Tryz.prog 31 #[nodeV 2 nm a n cap] W fun e W' => e = .returned (.bool (n == 0)) ∧ Below W.heap.size W W' := by
  obtain ⟨T, hT⟩ : ∃ T, T = (n == 0) := ⟨_, rfl⟩
  rw [← hT]
  have hmx : (n : Int) ≤ 9223372036854775807 := by simp only [maxLen] at hn; omega
  by_cases h0 : n = 0
  · subst h0
    have HT := hide hT
    clear hT
    unfold nodeV
    have q1 := Box3.new W (.int .i64 2) (.string nm) (.slice (a) 0 cap) 29
    have hB0 : Below W.heap.size W (W.alloc (.cells #[.int .i64 2, .string nm, .slice (a) 0 cap] 29)) := below_alloc1 _ _
    clear hl hn
    go_enter Tryz.func31, Tryz.ntmps31
    go_upto_region 1 with fail
    generalize W.alloc (.cells #[.int .i64 2, .string nm, .slice (a) 0 cap] 29) = W0 at *
    have qlt := q1.lt
    obtain ⟨-, d0, d1, d2, -, -, -⟩ := id q1
    go_wp2_with fail
    go_ret
    exact ⟨by rw [HT.out]; rfl, hB0⟩
  · have z0 : ((n : Int) == 0) = false := beq_eq_false_iff_ne.2 (by omega)
    have zz0 : (n == 0) = false := beq_eq_false_iff_ne.2 h0
    rw [zz0] at hT
    clear zz0
    have HT := hide hT
    clear hT
    unfold nodeV
    have q1 := Box3.new W (.int .i64 2) (.string nm) (.slice (a) n cap) 29
    have hB0 : Below W.heap.size W (W.alloc (.cells #[.int .i64 2, .string nm, .slice (a) n cap] 29)) := below_alloc1 _ _
    clear hl hn
    go_enter Tryz.func31, Tryz.ntmps31
    go_upto_region 1 with fail
    generalize W.alloc (.cells #[.int .i64 2, .string nm, .slice (a) n cap] 29) = W0 at *
    have qlt := q1.lt
    obtain ⟨-, d0, d1, d2, -, -, -⟩ := id q1
    go_wp2_with fail
    go_ret
    exact ⟨by rw [HT.out]; rfl, hB0⟩

set_option maxHeartbeats 1000000 in
set_option maxRecDepth 100000 in
theorem kid3 (nm : ByteArray) (a : Option Addr) (cap n : Nat) (L : List Kn) (W : World) (hl : L.length = n) (hn : n ≤ maxLen) (_hk : Kids W W.heap.size a L) :
    Calls Tryz.prog 31 #[nodeV 3 nm a n cap] W fun e W' => e = .returned (.bool (n == 0)) ∧ Below W.heap.size W W' := by
  obtain ⟨T, hT⟩ : ∃ T, T = (n == 0) := ⟨_, rfl⟩
  rw [← hT]
  have hmx : (n : Int) ≤ 9223372036854775807 := by simp only [maxLen] at hn; omega
  by_cases h0 : n = 0
  · subst h0
    have HT := hide hT
    clear hT
    unfold nodeV
    have q1 := Box3.new W (.int .i64 3) (.string nm) (.slice (a) 0 cap) 29
    have hB0 : Below W.heap.size W (W.alloc (.cells #[.int .i64 3, .string nm, .slice (a) 0 cap] 29)) := below_alloc1 _ _
    clear hl hn
    go_enter Tryz.func31, Tryz.ntmps31
    go_upto_region 1 with fail
    generalize W.alloc (.cells #[.int .i64 3, .string nm, .slice (a) 0 cap] 29) = W0 at *
    have qlt := q1.lt
    obtain ⟨-, d0, d1, d2, -, -, -⟩ := id q1
    go_wp2_with fail
    go_ret
    exact ⟨by rw [HT.out]; rfl, hB0⟩
  · have z0 : ((n : Int) == 0) = false := beq_eq_false_iff_ne.2 (by omega)
    have zz0 : (n == 0) = false := beq_eq_false_iff_ne.2 h0
    rw [zz0] at hT
    clear zz0
    have HT := hide hT
    clear hT
    unfold nodeV
    have q1 := Box3.new W (.int .i64 3) (.string nm) (.slice (a) n cap) 29
    have hB0 : Below W.heap.size W (W.alloc (.cells #[.int .i64 3, .string nm, .slice (a) n cap] 29)) := below_alloc1 _ _
    clear hl hn
    go_enter Tryz.func31, Tryz.ntmps31
    go_upto_region 1 with fail
    generalize W.alloc (.cells #[.int .i64 3, .string nm, .slice (a) n cap] 29) = W0 at *
    have qlt := q1.lt
    obtain ⟨-, d0, d1, d2, -, -, -⟩ := id q1
    go_wp2_with fail
    go_ret
    exact ⟨by rw [HT.out]; rfl, hB0⟩

set_option maxHeartbeats 1000000 in
set_option maxRecDepth 100000 in
theorem kid4 (nm : ByteArray) (a : Option Addr) (cap n : Nat) (L : List Kn) (W : World) (hl : L.length = n) (hn : n ≤ maxLen) (_hk : Kids W W.heap.size a L) :
    Calls Tryz.prog 31 #[nodeV 4 nm a n cap] W fun e W' => e = .returned (.bool (n == 0)) ∧ Below W.heap.size W W' := by
  obtain ⟨T, hT⟩ : ∃ T, T = (n == 0) := ⟨_, rfl⟩
  rw [← hT]
  have hmx : (n : Int) ≤ 9223372036854775807 := by simp only [maxLen] at hn; omega
  by_cases h0 : n = 0
  · subst h0
    have HT := hide hT
    clear hT
    unfold nodeV
    have q1 := Box3.new W (.int .i64 4) (.string nm) (.slice (a) 0 cap) 29
    have hB0 : Below W.heap.size W (W.alloc (.cells #[.int .i64 4, .string nm, .slice (a) 0 cap] 29)) := below_alloc1 _ _
    clear hl hn
    go_enter Tryz.func31, Tryz.ntmps31
    go_upto_region 1 with fail
    generalize W.alloc (.cells #[.int .i64 4, .string nm, .slice (a) 0 cap] 29) = W0 at *
    have qlt := q1.lt
    obtain ⟨-, d0, d1, d2, -, -, -⟩ := id q1
    go_wp2_with fail
    go_ret
    exact ⟨by rw [HT.out]; rfl, hB0⟩
  · have z0 : ((n : Int) == 0) = false := beq_eq_false_iff_ne.2 (by omega)
    have zz0 : (n == 0) = false := beq_eq_false_iff_ne.2 h0
    rw [zz0] at hT
    clear zz0
    have HT := hide hT
    clear hT
    unfold nodeV
    have q1 := Box3.new W (.int .i64 4) (.string nm) (.slice (a) n cap) 29
    have hB0 : Below W.heap.size W (W.alloc (.cells #[.int .i64 4, .string nm, .slice (a) n cap] 29)) := below_alloc1 _ _
    clear hl hn
    go_enter Tryz.func31, Tryz.ntmps31
    go_upto_region 1 with fail
    generalize W.alloc (.cells #[.int .i64 4, .string nm, .slice (a) n cap] 29) = W0 at *
    have qlt := q1.lt
    obtain ⟨-, d0, d1, d2, -, -, -⟩ := id q1
    go_wp2_with fail
    go_ret
    exact ⟨by rw [HT.out]; rfl, hB0⟩

set_option maxHeartbeats 1000000 in
set_option maxRecDepth 100000 in
theorem kid5 (nm : ByteArray) (a : Option Addr) (cap n : Nat) (L : List Kn) (W : World) (hl : L.length = n) (hn : n ≤ maxLen) (_hk : Kids W W.heap.size a L) :
    Calls Tryz.prog 31 #[nodeV 5 nm a n cap] W fun e W' => e = .returned (.bool (n == 0)) ∧ Below W.heap.size W W' := by
  obtain ⟨T, hT⟩ : ∃ T, T = (n == 0) := ⟨_, rfl⟩
  rw [← hT]
  have hmx : (n : Int) ≤ 9223372036854775807 := by simp only [maxLen] at hn; omega
  by_cases h0 : n = 0
  · subst h0
    have HT := hide hT
    clear hT
    unfold nodeV
    have q1 := Box3.new W (.int .i64 5) (.string nm) (.slice (a) 0 cap) 29
    have hB0 : Below W.heap.size W (W.alloc (.cells #[.int .i64 5, .string nm, .slice (a) 0 cap] 29)) := below_alloc1 _ _
    clear hl hn
    go_enter Tryz.func31, Tryz.ntmps31
    go_upto_region 1 with fail
    generalize W.alloc (.cells #[.int .i64 5, .string nm, .slice (a) 0 cap] 29) = W0 at *
    have qlt := q1.lt
    obtain ⟨-, d0, d1, d2, -, -, -⟩ := id q1
    go_wp2_with fail
    go_ret
    exact ⟨by rw [HT.out]; rfl, hB0⟩
  · have z0 : ((n : Int) == 0) = false := beq_eq_false_iff_ne.2 (by omega)
    have zz0 : (n == 0) = false := beq_eq_false_iff_ne.2 h0
    rw [zz0] at hT
    clear zz0
    have HT := hide hT
    clear hT
    unfold nodeV
    have q1 := Box3.new W (.int .i64 5) (.string nm) (.slice (a) n cap) 29
    have hB0 : Below W.heap.size W (W.alloc (.cells #[.int .i64 5, .string nm, .slice (a) n cap] 29)) := below_alloc1 _ _
    clear hl hn
    go_enter Tryz.func31, Tryz.ntmps31
    go_upto_region 1 with fail
    generalize W.alloc (.cells #[.int .i64 5, .string nm, .slice (a) n cap] 29) = W0 at *
    have qlt := q1.lt
    obtain ⟨-, d0, d1, d2, -, -, -⟩ := id q1
    go_wp2_with fail
    go_ret
    exact ⟨by rw [HT.out]; rfl, hB0⟩

set_option maxHeartbeats 1000000 in
set_option maxRecDepth 100000 in
theorem kid12 (nm : ByteArray) (a : Option Addr) (cap n : Nat) (L : List Kn) (W : World) (hl : L.length = n) (hn : n ≤ maxLen) (hk : Kids W W.heap.size a L) :
    Calls Tryz.prog 31 #[nodeV 12 nm a n cap] W fun e W' => e = .returned (.bool (allB L eK 0 n)) ∧ Below W.heap.size W W' := by
  obtain ⟨T, hT⟩ : ∃ T, T = (allB L eK 0 n) := ⟨_, rfl⟩
  rw [← hT]
  have hmx : (n : Int) ≤ 9223372036854775807 := by simp only [maxLen] at hn; omega
  have HA0 : Hid (∀ wx, Below W.heap.size W wx → Calls Tryz.prog 52 #[.agg #[.int .i64 12, .string nm, .slice (a) n cap], .int .i64 0, .int .i64 n, .int .u8 101, .int .i64 0] wx fun e W' => e = .returned (.bool (allB L eK 0 n)) ∧ Below wx.heap.size wx W') := fun wx hb => by
    have := mAllE 12 nm (a) cap n L (0) (n) 0 wx hl hn (by omega) (hk.at hb)
    exact this
  rw [← hT] at HA0
  have HTX : True := trivial
  clear HTX
  clear hT
  unfold nodeV
  have q1 := Box3.new W (.int .i64 12) (.string nm) (.slice (a) n cap) 29
  have hB0 : Below W.heap.size W (W.alloc (.cells #[.int .i64 12, .string nm, .slice (a) n cap] 29)) := below_alloc1 _ _
  clear hk hl hn
  go_enter Tryz.func31, Tryz.ntmps31
  go_upto_region 1 with fail
  generalize W.alloc (.cells #[.int .i64 12, .string nm, .slice (a) n cap] 29) = W0 at *
  have qlt := q1.lt
  obtain ⟨-, d0, d1, d2, -, -, -⟩ := id q1
  go_wp2_with fail
  refine (HA0.out _ hB0).mono ?_
  rintro e w1 ⟨rfl, b1⟩
  have c1 := hB0.trans (b1.mono hB0.size)
  have q1' := q1.below b1 q1.lt
  obtain ⟨-, f10, f11, f12, -, -, -⟩ := id q1'
  go_wp2_with fail
  go_ret
  exact ⟨rfl, c1⟩

set_option maxHeartbeats 1000000 in
set_option maxRecDepth 100000 in
theorem kid18 (nm : ByteArray) (a : Option Addr) (cap n : Nat) (L : List Kn) (W : World) (hl : L.length = n) (hn : n ≤ maxLen) (hk : Kids W W.heap.size a L) :
    Calls Tryz.prog 31 #[nodeV 18 nm a n cap] W fun e W' => e = .returned (.bool (turnsM false L)) ∧ Below W.heap.size W W' := by
  obtain ⟨T, hT⟩ : ∃ T, T = (turnsM false L) := ⟨_, rfl⟩
  rw [← hT]
  have hmx : (n : Int) ≤ 9223372036854775807 := by simp only [maxLen] at hn; omega
  have HA0 : Hid (∀ wx, Below W.heap.size W wx → Calls Tryz.prog 53 #[.agg #[.int .i64 18, .string nm, .slice (a) n cap], .int .u8 101] wx fun e W' => e = .returned (.bool (turnsM false L)) ∧ Below wx.heap.size wx W') := fun wx hb => mTurnsE 18 nm (a) cap n L wx hl hn (hk.at hb)
  rw [← hT] at HA0
  have HTX : True := trivial
  clear HTX
  clear hT
  unfold nodeV
  have q1 := Box3.new W (.int .i64 18) (.string nm) (.slice (a) n cap) 29
  have hB0 : Below W.heap.size W (W.alloc (.cells #[.int .i64 18, .string nm, .slice (a) n cap] 29)) := below_alloc1 _ _
  clear hk hl hn
  go_enter Tryz.func31, Tryz.ntmps31
  go_upto_region 1 with fail
  generalize W.alloc (.cells #[.int .i64 18, .string nm, .slice (a) n cap] 29) = W0 at *
  have qlt := q1.lt
  obtain ⟨-, d0, d1, d2, -, -, -⟩ := id q1
  go_wp2_with fail
  refine (HA0.out _ hB0).mono ?_
  rintro e w1 ⟨rfl, b1⟩
  have c1 := hB0.trans (b1.mono hB0.size)
  have q1' := q1.below b1 q1.lt
  obtain ⟨-, f10, f11, f12, -, -, -⟩ := id q1'
  go_wp2_with fail
  go_ret
  exact ⟨rfl, c1⟩

set_option maxHeartbeats 1000000 in
set_option maxRecDepth 100000 in
theorem kid20 (nm : ByteArray) (a : Option Addr) (cap n : Nat) (L : List Kn) (W : World) (hl : L.length = n) (hn : n ≤ maxLen) (hk : Kids W W.heap.size a L) :
    Calls Tryz.prog 31 #[nodeV 20 nm a n cap] W fun e W' => e = .returned (.bool (rhsM L)) ∧ Below W.heap.size W W' := by
  obtain ⟨T, hT⟩ : ∃ T, T = (rhsM L) := ⟨_, rfl⟩
  rw [← hT]
  have hmx : (n : Int) ≤ 9223372036854775807 := by simp only [maxLen] at hn; omega
  have HA0 : Hid (∀ wx, Below W.heap.size W wx → Calls Tryz.prog 54 #[.agg #[.int .i64 20, .string nm, .slice (a) n cap]] wx fun e W' => e = .returned (.bool (rhsM L)) ∧ Below wx.heap.size wx W') := fun wx hb => mRhs 20 nm (a) cap n L wx hl hn (hk.at hb)
  rw [← hT] at HA0
  have HTX : True := trivial
  clear HTX
  clear hT
  unfold nodeV
  have q1 := Box3.new W (.int .i64 20) (.string nm) (.slice (a) n cap) 29
  have hB0 : Below W.heap.size W (W.alloc (.cells #[.int .i64 20, .string nm, .slice (a) n cap] 29)) := below_alloc1 _ _
  clear hk hl hn
  go_enter Tryz.func31, Tryz.ntmps31
  go_upto_region 1 with fail
  generalize W.alloc (.cells #[.int .i64 20, .string nm, .slice (a) n cap] 29) = W0 at *
  have qlt := q1.lt
  obtain ⟨-, d0, d1, d2, -, -, -⟩ := id q1
  go_wp2_with fail
  refine (HA0.out _ hB0).mono ?_
  rintro e w1 ⟨rfl, b1⟩
  have c1 := hB0.trans (b1.mono hB0.size)
  have q1' := q1.below b1 q1.lt
  obtain ⟨-, f10, f11, f12, -, -, -⟩ := id q1'
  go_wp2_with fail
  go_ret
  exact ⟨rfl, c1⟩

end Go.Proofs.YtjfoagmenehapaaGreatDoor.Tree

