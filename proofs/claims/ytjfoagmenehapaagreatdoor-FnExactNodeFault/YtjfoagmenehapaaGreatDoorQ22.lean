import Derived.Test.YtjfoagmenehapaaGreatDoorQ20
import Derived.Deep.Cut
namespace Go.Proofs.YtjfoagmenehapaaGreatDoor
open Go.RowKit Go.Joins

theorem pre45 (L : List UInt8) : Lib.hasPrefix L [45] = (match L with | [] => false | b :: _ => b == 45) := by
  unfold Lib.hasPrefix
  cases L with
  | nil => rfl
  | cons b r => simp [List.isPrefixOf, Bool.beq_comm]

set_option maxHeartbeats 1000000 in
set_option maxRecDepth 100000 in
theorem nok33 (t : ByteArray) (a : Option Addr) (n cap : Nat) (w : World) :
    Calls Tryz.prog 30 #[.agg #[.int .i64 33, .string t, .slice a n cap]] w fun e w' => e = .returned (.bool (sg t)) ∧ Below w.heap.size w w' := by
  have b0 : Below w.heap.size w (w.alloc (.cells #[.int .i64 33, .string t, .slice a n cap] 29)) := below_alloc1 _ _
  have HD : Hid (∀ s wx, Calls Tryz.prog 51 #[.string s] wx fun e w' => e = .returned (.bool (tx 5 s)) ∧ Below wx.heap.size wx w') := fun s wx => mDig s wx
  obtain ⟨T, hT⟩ : ∃ T, T = sg t := ⟨_, rfl⟩
  rw [← hT]
  unfold sg Lib.trimPrefix at hT
  rw [pre45] at hT
  by_cases h0 : t.size = 0
  · have hd : t.data.toList = [] := by
      have : t.data.toList.length = 0 := by rw [Array.length_toList]; exact h0
      exact List.length_eq_zero_iff.1 this
    have he : t.toList.isEmpty = true := by rw [emp]; simp [h0]
    have e1 : (⟨t.data.toList.toArray⟩ : ByteArray) = t := by rcases t with ⟨⟨L⟩⟩; rfl
    rw [hd] at hT
    simp only [Bool.false_and, Bool.not_false, Bool.and_true, if_neg (show ¬ (false = true) by decide)] at hT
    rw [← hd, e1] at hT
    have H1 := hide (HD.out t (w.alloc (.cells #[.int .i64 33, .string t, .slice a n cap] 29)))
    rw [← hT] at H1
    clear hT hd e1 HD h0
    go_enter Tryz.func30, Tryz.ntmps30
    go_wp2_with fail
    refine H1.out.mono ?_
    rintro e w2 ⟨rfl, b2⟩
    go_wp2_with fail
    go_ret
    exact ⟨rfl, b0.trans (b2.mono b0.size)⟩
  · have hlt : 0 < t.size := by omega
    have hlt' : (0 : Int) < t.size := by omega
    have he : t.toList.isEmpty = false := by rw [emp]; simp [h0]
    obtain ⟨b, r, hbr⟩ : ∃ b r, t.data.toList = b :: r := by
      cases h : t.data.toList with
      | nil => exact absurd (by rw [← Array.length_toList, h]; rfl : t.data.size = 0) h0
      | cons b r => exact ⟨b, r, rfl⟩
    have hb0 : t[0] = b := by
      have : t.data.toList[0]? = some b := by rw [hbr]; rfl
      rw [Array.getElem?_toList] at this
      have h2 := (Array.getElem?_eq_some_iff.1 this).2
      exact h2
    by_cases hb : b = 45
    · subst hb
      have hz : ((t[0].toNat : Int) == 45) = true := by rw [hb0]; rfl
      have hx : t.extract 1 t.size = ⟨r.toArray⟩ := by
        apply ByteArray.ext
        apply Array.ext'
        rw [ByteArray.data_extract, Array.toList_extract, hbr]
        have : t.size = r.length + 1 := by
          have := congrArg List.length hbr
          rw [Array.length_toList, List.length_cons] at this
          exact this
        rw [this]
        simp
      have hc : (t.toList == [45, 48]) = (r == [48]) := by rw [Lib.toList_data, hbr]; simp
      have hr : (⟨r.toArray⟩ : ByteArray).toList = r := by rw [Lib.toList_data]
      have hT2 : T = (tx 5 ⟨r.toArray⟩ && !(r == [48])) := by
        rw [hT, hbr]
        simp only [beq_self_eq_true, if_true, List.length_cons, List.length_nil, List.drop_succ_cons, List.drop_zero, Nat.zero_add, Bool.true_and, hr]
      have H1 := hide (HD.out ⟨r.toArray⟩ (w.alloc (.cells #[.int .i64 33, .string t, .slice a n cap] 29)))
      rw [← hx] at H1 hT2
      clear hT hx hr hb0 HD hbr h0
      generalize hS : t.extract 1 t.size = S at H1 hT2
      cases hX : tx 5 S with
      | false =>
        rw [hX] at H1 hT2
        have HT : Hid (T = false) := hT2
        clear hT2 hX hc
        go_enter Tryz.func30, Tryz.ntmps30
        go_wp2_with fail
        refine H1.out.mono ?_
        rintro e w2 ⟨rfl, b2⟩
        go_wp2_with fail
        go_ret
        exact ⟨by rw [HT.out]; rfl, b0.trans (b2.mono b0.size)⟩
      | true =>
        rw [hX, ← hc] at hT2
        rw [hX] at H1
        clear hX hc
        rcases z : (t.toList == [45, 48]) with _ | _
        all_goals
          rw [z] at hT2
          have HT := hide hT2
          clear hT2
          go_enter Tryz.func30, Tryz.ntmps30
          go_wp2_with fail
          refine H1.out.mono ?_
          rintro e w2 ⟨rfl, b2⟩
          go_wp2_with fail
          go_ret
          exact ⟨by rw [HT.out]; rfl, b0.trans (b2.mono b0.size)⟩
    · have hz : ((t[0].toNat : Int) == 45) = false := by
        rw [hb0]
        exact beq_eq_false_iff_ne.2 (fun h => hb (UInt8.toNat_inj.1 (by simpa using (by omega : b.toNat = 45))))
      have hb2 : (b == 45) = false := beq_eq_false_iff_ne.2 hb
      have e1 : (⟨t.data.toList.toArray⟩ : ByteArray) = t := by rcases t with ⟨⟨L⟩⟩; rfl
      have hT2 : T = tx 5 t := by
        rw [hT, hbr]
        simp only [hb2, Bool.false_and, Bool.not_false, Bool.and_true, if_neg (show ¬ (false = true) by decide)]
        rw [← hbr, e1]
      have H1 := hide (HD.out t (w.alloc (.cells #[.int .i64 33, .string t, .slice a n cap] 29)))
      rw [← hT2] at H1
      clear hT hT2 hb0 HD hbr h0 hb hb2 e1
      go_enter Tryz.func30, Tryz.ntmps30
      go_wp2_with fail
      refine H1.out.mono ?_
      rintro e w2 ⟨rfl, b2⟩
      go_wp2_with fail
      go_ret
      exact ⟨rfl, b0.trans (b2.mono b0.size)⟩

end Go.Proofs.YtjfoagmenehapaaGreatDoor

namespace Go.Proofs.YtjfoagmenehapaaGreatDoor
open Go.RowKit Go.Joins

set_option maxHeartbeats 1000000 in
set_option maxRecDepth 100000 in
theorem fit1 (mb : Nat) (t : ByteArray) (a : Option Addr) (n cap : Nat) (w : World) (hm : mb < w.heap.size) (hK : KM w mb) :
    Calls Tryz.prog 16 #[.agg #[.map (some mb)], .agg #[.int .i64 1, .string t, .slice a n cap]] w fun e w' => e = .returned (.bool (vr t)) ∧ Below w.heap.size w w' := by
  have b0 : Below w.heap.size w ((w.alloc (.cells #[.map (some mb)] 42)).alloc (.cells #[.int .i64 1, .string t, .slice a n cap] 29)) := ((Below.refl _ _).alloc (Nat.le_refl _) _).alloc (by simp) _
  have HS := hide (iVar mb t _ (Nat.lt_of_lt_of_le hm b0.size) (hK.below b0 hm))
  clear hm hK
  generalize vr t = X at *
  go_enter Tryz.func16, Tryz.ntmps16
  go_wp2_with fail
  refine HS.out.mono ?_
  rintro e w2 ⟨rfl, b2⟩
  go_wp2_with fail
  go_ret
  exact ⟨rfl, b0.trans (b2.mono b0.size)⟩

set_option maxHeartbeats 1000000 in
set_option maxRecDepth 100000 in
theorem fit5 (mb : Nat) (t : ByteArray) (a : Option Addr) (n cap : Nat) (w : World) (hm : mb < w.heap.size) (hK : KM w mb) :
    Calls Tryz.prog 16 #[.agg #[.map (some mb)], .agg #[.int .i64 5, .string t, .slice a n cap]] w fun e w' => e = .returned (.bool (tx 7 t)) ∧ Below w.heap.size w w' := by
  have b0 : Below w.heap.size w ((w.alloc (.cells #[.map (some mb)] 42)).alloc (.cells #[.int .i64 5, .string t, .slice a n cap] 29)) := ((Below.refl _ _).alloc (Nat.le_refl _) _).alloc (by simp) _
  have HS := hide (iText mb 7 t _ (Nat.lt_of_lt_of_le hm b0.size) (hK.below b0 hm))
  clear hm hK
  generalize tx 7 t = X at *
  go_enter Tryz.func16, Tryz.ntmps16
  go_wp2_with fail
  refine HS.out.mono ?_
  rintro e w2 ⟨rfl, b2⟩
  go_wp2_with fail
  go_ret
  exact ⟨rfl, b0.trans (b2.mono b0.size)⟩

set_option maxHeartbeats 1000000 in
set_option maxRecDepth 100000 in
theorem fit32 (mb : Nat) (t : ByteArray) (a : Option Addr) (n cap : Nat) (w : World) (hm : mb < w.heap.size) (hK : KM w mb) :
    Calls Tryz.prog 16 #[.agg #[.map (some mb)], .agg #[.int .i64 32, .string t, .slice a n cap]] w fun e w' => e = .returned (.bool (cn t)) ∧ Below w.heap.size w w' := by
  have b0 : Below w.heap.size w ((w.alloc (.cells #[.map (some mb)] 42)).alloc (.cells #[.int .i64 32, .string t, .slice a n cap] 29)) := ((Below.refl _ _).alloc (Nat.le_refl _) _).alloc (by simp) _
  have HS := hide (iCon mb t _ (Nat.lt_of_lt_of_le hm b0.size) (hK.below b0 hm))
  clear hm hK
  generalize cn t = X at *
  go_enter Tryz.func16, Tryz.ntmps16
  go_wp2_with fail
  refine HS.out.mono ?_
  rintro e w2 ⟨rfl, b2⟩
  go_wp2_with fail
  go_ret
  exact ⟨rfl, b0.trans (b2.mono b0.size)⟩

set_option maxHeartbeats 1000000 in
set_option maxRecDepth 100000 in
theorem fit38 (mb : Nat) (t : ByteArray) (a : Option Addr) (n cap : Nat) (w : World) (hm : mb < w.heap.size) (hK : KM w mb) :
    Calls Tryz.prog 16 #[.agg #[.map (some mb)], .agg #[.int .i64 38, .string t, .slice a n cap]] w fun e w' => e = .returned (.bool (tx 1 t)) ∧ Below w.heap.size w w' := by
  have b0 : Below w.heap.size w ((w.alloc (.cells #[.map (some mb)] 42)).alloc (.cells #[.int .i64 38, .string t, .slice a n cap] 29)) := ((Below.refl _ _).alloc (Nat.le_refl _) _).alloc (by simp) _
  have HS := hide (iText mb 1 t _ (Nat.lt_of_lt_of_le hm b0.size) (hK.below b0 hm))
  clear hm hK
  generalize tx 1 t = X at *
  go_enter Tryz.func16, Tryz.ntmps16
  go_wp2_with fail
  refine HS.out.mono ?_
  rintro e w2 ⟨rfl, b2⟩
  go_wp2_with fail
  go_ret
  exact ⟨rfl, b0.trans (b2.mono b0.size)⟩

set_option maxHeartbeats 1000000 in
set_option maxRecDepth 100000 in
theorem fit62 (mb : Nat) (t : ByteArray) (a : Option Addr) (n cap : Nat) (w : World) :
    Calls Tryz.prog 16 #[.agg #[.map (some mb)], .agg #[.int .i64 62, .string t, .slice a n cap]] w fun e w' => e = .returned (.bool (fixN t)) ∧ Below w.heap.size w w' := by
  have b0 : Below w.heap.size w ((w.alloc (.cells #[.map (some mb)] 42)).alloc (.cells #[.int .i64 62, .string t, .slice a n cap] 29)) := ((Below.refl _ _).alloc (Nat.le_refl _) _).alloc (by simp) _
  unfold fixN
  rcases z1 : (t.toList == [105, 110, 102, 105, 120]) with _ | _
  · rcases z2 : (t.toList == [105, 110, 102, 105, 120, 108]) with _ | _
    · rcases z3 : (t.toList == [105, 110, 102, 105, 120, 114]) with _ | _
      all_goals
        go_enter Tryz.func16, Tryz.ntmps16
        go_wp2_with fail
        go_ret
        exact ⟨rfl, b0⟩
    · go_enter Tryz.func16, Tryz.ntmps16
      go_wp2_with fail
      go_ret
      exact ⟨rfl, b0⟩
  · go_enter Tryz.func16, Tryz.ntmps16
    go_wp2_with fail
    go_ret
    exact ⟨rfl, b0⟩

set_option maxHeartbeats 1000000 in
set_option maxRecDepth 100000 in
theorem fit66 (mb : Nat) (t : ByteArray) (a : Option Addr) (n cap : Nat) (w : World) (hm : mb < w.heap.size) (hK : KM w mb) :
    Calls Tryz.prog 16 #[.agg #[.map (some mb)], .agg #[.int .i64 66, .string t, .slice a n cap]] w fun e w' => e = .returned (.bool (tx 2 t)) ∧ Below w.heap.size w w' := by
  have b0 : Below w.heap.size w ((w.alloc (.cells #[.map (some mb)] 42)).alloc (.cells #[.int .i64 66, .string t, .slice a n cap] 29)) := ((Below.refl _ _).alloc (Nat.le_refl _) _).alloc (by simp) _
  have HS := hide (iText mb 2 t _ (Nat.lt_of_lt_of_le hm b0.size) (hK.below b0 hm))
  clear hm hK
  generalize tx 2 t = X at *
  go_enter Tryz.func16, Tryz.ntmps16
  go_wp2_with fail
  refine HS.out.mono ?_
  rintro e w2 ⟨rfl, b2⟩
  go_wp2_with fail
  go_ret
  exact ⟨rfl, b0.trans (b2.mono b0.size)⟩

set_option maxHeartbeats 1000000 in
set_option maxRecDepth 100000 in
theorem fit71 (mb : Nat) (t : ByteArray) (a : Option Addr) (n cap : Nat) (w : World) (hm : mb < w.heap.size) (hK : KM w mb) :
    Calls Tryz.prog 16 #[.agg #[.map (some mb)], .agg #[.int .i64 71, .string t, .slice a n cap]] w fun e w' => e = .returned (.bool ((vr t || cn t))) ∧ Below w.heap.size w w' := by
  have b0 : Below w.heap.size w ((w.alloc (.cells #[.map (some mb)] 42)).alloc (.cells #[.int .i64 71, .string t, .slice a n cap] 29)) := ((Below.refl _ _).alloc (Nat.le_refl _) _).alloc (by simp) _
  have HS := hide (iVar mb t _ (Nat.lt_of_lt_of_le hm b0.size) (hK.below b0 hm))
  have HC : Hid (∀ wx, Below w.heap.size w wx → Calls Tryz.prog 24 #[.agg #[.map (some mb)], .string t] wx fun e w' => e = .returned (.bool (cn t)) ∧ Below wx.heap.size wx w') := fun wx hb => iCon mb t wx (Nat.lt_of_lt_of_le hm hb.size) (hK.below hb hm)
  have P : ((w.alloc (.cells #[.map (some mb)] 42)).alloc (.cells #[.int .i64 71, .string t, .slice a n cap] 29)).cell? ⟨w.heap.size, 0, none⟩ = some (.map (some mb)) := ((below_alloc1 (w.alloc (.cells #[.map (some mb)] 42)) _).cell (p := ⟨w.heap.size, 0, none⟩) (by simp)).trans (by simp)
  have hz0 : (w.alloc (.cells #[.map (some mb)] 42)).heap.size = w.heap.size + 1 := by simp
  have P2 : ((w.alloc (.cells #[.map (some mb)] 42)).alloc (.cells #[.int .i64 71, .string t, .slice a n cap] 29)).cell? ⟨w.heap.size + 1, 1, none⟩ = some (.string t) := by rw [← hz0]; simp
  have hl : w.heap.size + 1 < ((w.alloc (.cells #[.map (some mb)] 42)).alloc (.cells #[.int .i64 71, .string t, .slice a n cap] 29)).heap.size := by simp
  clear hm hK hz0
  generalize cn t = Y at *
  rcases z : vr t with _ | _
  · rw [z] at HS
    clear z
    go_enter Tryz.func16, Tryz.ntmps16
    go_wp2_with fail
    refine HS.out.mono ?_
    rintro e w2 ⟨rfl, b2⟩
    have c2 := b0.trans (b2.mono b0.size)
    have p1 := (b2.cell (p := ⟨w.heap.size, 0, none⟩) (by show w.heap.size < _; omega)).trans P
    have p2 := (b2.cell (p := ⟨w.heap.size + 1, 1, none⟩) hl).trans P2
    go_wp2_with fail
    refine (HC.out _ c2).mono ?_
    rintro e w3 ⟨rfl, b3⟩
    go_wp2_with fail
    go_ret
    exact ⟨rfl, c2.trans (b3.mono c2.size)⟩
  · rw [z] at HS
    clear z HC
    go_enter Tryz.func16, Tryz.ntmps16
    go_wp2_with fail
    refine HS.out.mono ?_
    rintro e w2 ⟨rfl, b2⟩
    go_wp2_with fail
    go_ret
    exact ⟨rfl, b0.trans (b2.mono b0.size)⟩

end Go.Proofs.YtjfoagmenehapaaGreatDoor

namespace Go.Proofs.YtjfoagmenehapaaGreatDoor
open Go.RowKit Go.Joins

set_option maxHeartbeats 1000000 in
set_option maxRecDepth 100000 in
theorem fit2 (mb : Nat) (t : ByteArray) (a : Option Addr) (n cap : Nat) (w : World) (hm : mb < w.heap.size) (hK : KM w mb) :
    Calls Tryz.prog 16 #[.agg #[.map (some mb)], .agg #[.int .i64 2, .string t, .slice a n cap]] w fun e w' => e = .returned (.bool (cn t)) ∧ Below w.heap.size w w' := by
  have b0 : Below w.heap.size w ((w.alloc (.cells #[.map (some mb)] 42)).alloc (.cells #[.int .i64 2, .string t, .slice a n cap] 29)) := ((Below.refl _ _).alloc (Nat.le_refl _) _).alloc (by simp) _
  have HS := hide (iCon mb t _ (Nat.lt_of_lt_of_le hm b0.size) (hK.below b0 hm))
  clear hm hK
  generalize cn t = X at *
  go_enter Tryz.func16, Tryz.ntmps16
  go_wp2_with fail
  refine HS.out.mono ?_
  rintro e w2 ⟨rfl, b2⟩
  go_wp2_with fail
  go_ret
  exact ⟨rfl, b0.trans (b2.mono b0.size)⟩

set_option maxHeartbeats 1000000 in
set_option maxRecDepth 100000 in
theorem fit15 (mb : Nat) (t : ByteArray) (a : Option Addr) (n cap : Nat) (w : World) (hm : mb < w.heap.size) (hK : KM w mb) :
    Calls Tryz.prog 16 #[.agg #[.map (some mb)], .agg #[.int .i64 15, .string t, .slice a n cap]] w fun e w' => e = .returned (.bool ((vr t || cn t))) ∧ Below w.heap.size w w' := by
  have b0 : Below w.heap.size w ((w.alloc (.cells #[.map (some mb)] 42)).alloc (.cells #[.int .i64 15, .string t, .slice a n cap] 29)) := ((Below.refl _ _).alloc (Nat.le_refl _) _).alloc (by simp) _
  have HS := hide (iVar mb t _ (Nat.lt_of_lt_of_le hm b0.size) (hK.below b0 hm))
  have HC : Hid (∀ wx, Below w.heap.size w wx → Calls Tryz.prog 24 #[.agg #[.map (some mb)], .string t] wx fun e w' => e = .returned (.bool (cn t)) ∧ Below wx.heap.size wx w') := fun wx hb => iCon mb t wx (Nat.lt_of_lt_of_le hm hb.size) (hK.below hb hm)
  have P : ((w.alloc (.cells #[.map (some mb)] 42)).alloc (.cells #[.int .i64 15, .string t, .slice a n cap] 29)).cell? ⟨w.heap.size, 0, none⟩ = some (.map (some mb)) := ((below_alloc1 (w.alloc (.cells #[.map (some mb)] 42)) _).cell (p := ⟨w.heap.size, 0, none⟩) (by simp)).trans (by simp)
  have hz0 : (w.alloc (.cells #[.map (some mb)] 42)).heap.size = w.heap.size + 1 := by simp
  have P2 : ((w.alloc (.cells #[.map (some mb)] 42)).alloc (.cells #[.int .i64 15, .string t, .slice a n cap] 29)).cell? ⟨w.heap.size + 1, 1, none⟩ = some (.string t) := by rw [← hz0]; simp
  have hl : w.heap.size + 1 < ((w.alloc (.cells #[.map (some mb)] 42)).alloc (.cells #[.int .i64 15, .string t, .slice a n cap] 29)).heap.size := by simp
  clear hm hK hz0
  generalize cn t = Y at *
  rcases z : vr t with _ | _
  · rw [z] at HS
    clear z
    go_enter Tryz.func16, Tryz.ntmps16
    go_wp2_with fail
    refine HS.out.mono ?_
    rintro e w2 ⟨rfl, b2⟩
    have c2 := b0.trans (b2.mono b0.size)
    have p1 := (b2.cell (p := ⟨w.heap.size, 0, none⟩) (by show w.heap.size < _; omega)).trans P
    have p2 := (b2.cell (p := ⟨w.heap.size + 1, 1, none⟩) hl).trans P2
    go_wp2_with fail
    refine (HC.out _ c2).mono ?_
    rintro e w3 ⟨rfl, b3⟩
    go_wp2_with fail
    go_ret
    exact ⟨rfl, c2.trans (b3.mono c2.size)⟩
  · rw [z] at HS
    clear z HC
    go_enter Tryz.func16, Tryz.ntmps16
    go_wp2_with fail
    refine HS.out.mono ?_
    rintro e w2 ⟨rfl, b2⟩
    go_wp2_with fail
    go_ret
    exact ⟨rfl, b0.trans (b2.mono b0.size)⟩

set_option maxHeartbeats 1000000 in
set_option maxRecDepth 100000 in
theorem fit33 (mb : Nat) (t : ByteArray) (a : Option Addr) (n cap : Nat) (w : World) (hm : mb < w.heap.size) (hK : KM w mb) :
    Calls Tryz.prog 16 #[.agg #[.map (some mb)], .agg #[.int .i64 33, .string t, .slice a n cap]] w fun e w' => e = .returned (.bool (sg t)) ∧ Below w.heap.size w w' := by
  have b0 : Below w.heap.size w ((w.alloc (.cells #[.map (some mb)] 42)).alloc (.cells #[.int .i64 33, .string t, .slice a n cap] 29)) := ((Below.refl _ _).alloc (Nat.le_refl _) _).alloc (by simp) _
  have HS := hide (iSigned mb t _ (Nat.lt_of_lt_of_le hm b0.size) (hK.below b0 hm))
  clear hm hK
  generalize sg t = X at *
  go_enter Tryz.func16, Tryz.ntmps16
  go_wp2_with fail
  refine HS.out.mono ?_
  rintro e w2 ⟨rfl, b2⟩
  go_wp2_with fail
  go_ret
  exact ⟨rfl, b0.trans (b2.mono b0.size)⟩

set_option maxHeartbeats 1000000 in
set_option maxRecDepth 100000 in
theorem fit50 (mb : Nat) (t : ByteArray) (a : Option Addr) (n cap : Nat) (w : World) (hm : mb < w.heap.size) (hK : KM w mb) :
    Calls Tryz.prog 16 #[.agg #[.map (some mb)], .agg #[.int .i64 50, .string t, .slice a n cap]] w fun e w' => e = .returned (.bool (tx 1 t)) ∧ Below w.heap.size w w' := by
  have b0 : Below w.heap.size w ((w.alloc (.cells #[.map (some mb)] 42)).alloc (.cells #[.int .i64 50, .string t, .slice a n cap] 29)) := ((Below.refl _ _).alloc (Nat.le_refl _) _).alloc (by simp) _
  have HS := hide (iText mb 1 t _ (Nat.lt_of_lt_of_le hm b0.size) (hK.below b0 hm))
  clear hm hK
  generalize tx 1 t = X at *
  go_enter Tryz.func16, Tryz.ntmps16
  go_wp2_with fail
  refine HS.out.mono ?_
  rintro e w2 ⟨rfl, b2⟩
  go_wp2_with fail
  go_ret
  exact ⟨rfl, b0.trans (b2.mono b0.size)⟩

set_option maxHeartbeats 1000000 in
set_option maxRecDepth 100000 in
theorem fit63 (mb : Nat) (t : ByteArray) (a : Option Addr) (n cap : Nat) (w : World) (hm : mb < w.heap.size) (hK : KM w mb) :
    Calls Tryz.prog 16 #[.agg #[.map (some mb)], .agg #[.int .i64 63, .string t, .slice a n cap]] w fun e w' => e = .returned (.bool (tx 2 t)) ∧ Below w.heap.size w w' := by
  have b0 : Below w.heap.size w ((w.alloc (.cells #[.map (some mb)] 42)).alloc (.cells #[.int .i64 63, .string t, .slice a n cap] 29)) := ((Below.refl _ _).alloc (Nat.le_refl _) _).alloc (by simp) _
  have HS := hide (iText mb 2 t _ (Nat.lt_of_lt_of_le hm b0.size) (hK.below b0 hm))
  clear hm hK
  generalize tx 2 t = X at *
  go_enter Tryz.func16, Tryz.ntmps16
  go_wp2_with fail
  refine HS.out.mono ?_
  rintro e w2 ⟨rfl, b2⟩
  go_wp2_with fail
  go_ret
  exact ⟨rfl, b0.trans (b2.mono b0.size)⟩

set_option maxHeartbeats 1000000 in
set_option maxRecDepth 100000 in
theorem fit67 (mb : Nat) (t : ByteArray) (a : Option Addr) (n cap : Nat) (w : World) (hm : mb < w.heap.size) (hK : KM w mb) :
    Calls Tryz.prog 16 #[.agg #[.map (some mb)], .agg #[.int .i64 67, .string t, .slice a n cap]] w fun e w' => e = .returned (.bool (tx 2 t)) ∧ Below w.heap.size w w' := by
  have b0 : Below w.heap.size w ((w.alloc (.cells #[.map (some mb)] 42)).alloc (.cells #[.int .i64 67, .string t, .slice a n cap] 29)) := ((Below.refl _ _).alloc (Nat.le_refl _) _).alloc (by simp) _
  have HS := hide (iText mb 2 t _ (Nat.lt_of_lt_of_le hm b0.size) (hK.below b0 hm))
  clear hm hK
  generalize tx 2 t = X at *
  go_enter Tryz.func16, Tryz.ntmps16
  go_wp2_with fail
  refine HS.out.mono ?_
  rintro e w2 ⟨rfl, b2⟩
  go_wp2_with fail
  go_ret
  exact ⟨rfl, b0.trans (b2.mono b0.size)⟩

end Go.Proofs.YtjfoagmenehapaaGreatDoor

namespace Go.Proofs.YtjfoagmenehapaaGreatDoor
open Go.RowKit Go.Joins

set_option maxHeartbeats 1000000 in
set_option maxRecDepth 100000 in
theorem fit3 (mb : Nat) (t : ByteArray) (a : Option Addr) (n cap : Nat) (w : World) (hm : mb < w.heap.size) (hK : KM w mb) :
    Calls Tryz.prog 16 #[.agg #[.map (some mb)], .agg #[.int .i64 3, .string t, .slice a n cap]] w fun e w' => e = .returned (.bool (tx 5 t)) ∧ Below w.heap.size w w' := by
  have b0 : Below w.heap.size w ((w.alloc (.cells #[.map (some mb)] 42)).alloc (.cells #[.int .i64 3, .string t, .slice a n cap] 29)) := ((Below.refl _ _).alloc (Nat.le_refl _) _).alloc (by simp) _
  have HS := hide (iText mb 5 t _ (Nat.lt_of_lt_of_le hm b0.size) (hK.below b0 hm))
  clear hm hK
  generalize tx 5 t = X at *
  go_enter Tryz.func16, Tryz.ntmps16
  go_wp2_with fail
  refine HS.out.mono ?_
  rintro e w2 ⟨rfl, b2⟩
  go_wp2_with fail
  go_ret
  exact ⟨rfl, b0.trans (b2.mono b0.size)⟩

set_option maxHeartbeats 1000000 in
set_option maxRecDepth 100000 in
theorem fit16 (mb : Nat) (t : ByteArray) (a : Option Addr) (n cap : Nat) (w : World) (hm : mb < w.heap.size) (hK : KM w mb) :
    Calls Tryz.prog 16 #[.agg #[.map (some mb)], .agg #[.int .i64 16, .string t, .slice a n cap]] w fun e w' => e = .returned (.bool ((vr t || cn t))) ∧ Below w.heap.size w w' := by
  have b0 : Below w.heap.size w ((w.alloc (.cells #[.map (some mb)] 42)).alloc (.cells #[.int .i64 16, .string t, .slice a n cap] 29)) := ((Below.refl _ _).alloc (Nat.le_refl _) _).alloc (by simp) _
  have HS := hide (iVar mb t _ (Nat.lt_of_lt_of_le hm b0.size) (hK.below b0 hm))
  have HC : Hid (∀ wx, Below w.heap.size w wx → Calls Tryz.prog 24 #[.agg #[.map (some mb)], .string t] wx fun e w' => e = .returned (.bool (cn t)) ∧ Below wx.heap.size wx w') := fun wx hb => iCon mb t wx (Nat.lt_of_lt_of_le hm hb.size) (hK.below hb hm)
  have P : ((w.alloc (.cells #[.map (some mb)] 42)).alloc (.cells #[.int .i64 16, .string t, .slice a n cap] 29)).cell? ⟨w.heap.size, 0, none⟩ = some (.map (some mb)) := ((below_alloc1 (w.alloc (.cells #[.map (some mb)] 42)) _).cell (p := ⟨w.heap.size, 0, none⟩) (by simp)).trans (by simp)
  have hz0 : (w.alloc (.cells #[.map (some mb)] 42)).heap.size = w.heap.size + 1 := by simp
  have P2 : ((w.alloc (.cells #[.map (some mb)] 42)).alloc (.cells #[.int .i64 16, .string t, .slice a n cap] 29)).cell? ⟨w.heap.size + 1, 1, none⟩ = some (.string t) := by rw [← hz0]; simp
  have hl : w.heap.size + 1 < ((w.alloc (.cells #[.map (some mb)] 42)).alloc (.cells #[.int .i64 16, .string t, .slice a n cap] 29)).heap.size := by simp
  clear hm hK hz0
  generalize cn t = Y at *
  rcases z : vr t with _ | _
  · rw [z] at HS
    clear z
    go_enter Tryz.func16, Tryz.ntmps16
    go_wp2_with fail
    refine HS.out.mono ?_
    rintro e w2 ⟨rfl, b2⟩
    have c2 := b0.trans (b2.mono b0.size)
    have p1 := (b2.cell (p := ⟨w.heap.size, 0, none⟩) (by show w.heap.size < _; omega)).trans P
    have p2 := (b2.cell (p := ⟨w.heap.size + 1, 1, none⟩) hl).trans P2
    go_wp2_with fail
    refine (HC.out _ c2).mono ?_
    rintro e w3 ⟨rfl, b3⟩
    go_wp2_with fail
    go_ret
    exact ⟨rfl, c2.trans (b3.mono c2.size)⟩
  · rw [z] at HS
    clear z HC
    go_enter Tryz.func16, Tryz.ntmps16
    go_wp2_with fail
    refine HS.out.mono ?_
    rintro e w2 ⟨rfl, b2⟩
    go_wp2_with fail
    go_ret
    exact ⟨rfl, b0.trans (b2.mono b0.size)⟩

set_option maxHeartbeats 1000000 in
set_option maxRecDepth 100000 in
theorem fit34 (mb : Nat) (t : ByteArray) (a : Option Addr) (n cap : Nat) (w : World) (hm : mb < w.heap.size) (hK : KM w mb) :
    Calls Tryz.prog 16 #[.agg #[.map (some mb)], .agg #[.int .i64 34, .string t, .slice a n cap]] w fun e w' => e = .returned (.bool (tx 6 t)) ∧ Below w.heap.size w w' := by
  have b0 : Below w.heap.size w ((w.alloc (.cells #[.map (some mb)] 42)).alloc (.cells #[.int .i64 34, .string t, .slice a n cap] 29)) := ((Below.refl _ _).alloc (Nat.le_refl _) _).alloc (by simp) _
  have HS := hide (iText mb 6 t _ (Nat.lt_of_lt_of_le hm b0.size) (hK.below b0 hm))
  clear hm hK
  generalize tx 6 t = X at *
  go_enter Tryz.func16, Tryz.ntmps16
  go_wp2_with fail
  refine HS.out.mono ?_
  rintro e w2 ⟨rfl, b2⟩
  go_wp2_with fail
  go_ret
  exact ⟨rfl, b0.trans (b2.mono b0.size)⟩

set_option maxHeartbeats 1000000 in
set_option maxRecDepth 100000 in
theorem fit51 (mb : Nat) (t : ByteArray) (a : Option Addr) (n cap : Nat) (w : World) (hm : mb < w.heap.size) (hK : KM w mb) :
    Calls Tryz.prog 16 #[.agg #[.map (some mb)], .agg #[.int .i64 51, .string t, .slice a n cap]] w fun e w' => e = .returned (.bool (tx 2 t)) ∧ Below w.heap.size w w' := by
  have b0 : Below w.heap.size w ((w.alloc (.cells #[.map (some mb)] 42)).alloc (.cells #[.int .i64 51, .string t, .slice a n cap] 29)) := ((Below.refl _ _).alloc (Nat.le_refl _) _).alloc (by simp) _
  have HS := hide (iText mb 2 t _ (Nat.lt_of_lt_of_le hm b0.size) (hK.below b0 hm))
  clear hm hK
  generalize tx 2 t = X at *
  go_enter Tryz.func16, Tryz.ntmps16
  go_wp2_with fail
  refine HS.out.mono ?_
  rintro e w2 ⟨rfl, b2⟩
  go_wp2_with fail
  go_ret
  exact ⟨rfl, b0.trans (b2.mono b0.size)⟩

set_option maxHeartbeats 1000000 in
set_option maxRecDepth 100000 in
theorem fit64 (mb : Nat) (t : ByteArray) (a : Option Addr) (n cap : Nat) (w : World) (hm : mb < w.heap.size) (hK : KM w mb) :
    Calls Tryz.prog 16 #[.agg #[.map (some mb)], .agg #[.int .i64 64, .string t, .slice a n cap]] w fun e w' => e = .returned (.bool (tx 2 t)) ∧ Below w.heap.size w w' := by
  have b0 : Below w.heap.size w ((w.alloc (.cells #[.map (some mb)] 42)).alloc (.cells #[.int .i64 64, .string t, .slice a n cap] 29)) := ((Below.refl _ _).alloc (Nat.le_refl _) _).alloc (by simp) _
  have HS := hide (iText mb 2 t _ (Nat.lt_of_lt_of_le hm b0.size) (hK.below b0 hm))
  clear hm hK
  generalize tx 2 t = X at *
  go_enter Tryz.func16, Tryz.ntmps16
  go_wp2_with fail
  refine HS.out.mono ?_
  rintro e w2 ⟨rfl, b2⟩
  go_wp2_with fail
  go_ret
  exact ⟨rfl, b0.trans (b2.mono b0.size)⟩

set_option maxHeartbeats 1000000 in
set_option maxRecDepth 100000 in
theorem fit68 (mb : Nat) (t : ByteArray) (a : Option Addr) (n cap : Nat) (w : World) (hm : mb < w.heap.size) (hK : KM w mb) :
    Calls Tryz.prog 16 #[.agg #[.map (some mb)], .agg #[.int .i64 68, .string t, .slice a n cap]] w fun e w' => e = .returned (.bool (tx 2 t)) ∧ Below w.heap.size w w' := by
  have b0 : Below w.heap.size w ((w.alloc (.cells #[.map (some mb)] 42)).alloc (.cells #[.int .i64 68, .string t, .slice a n cap] 29)) := ((Below.refl _ _).alloc (Nat.le_refl _) _).alloc (by simp) _
  have HS := hide (iText mb 2 t _ (Nat.lt_of_lt_of_le hm b0.size) (hK.below b0 hm))
  clear hm hK
  generalize tx 2 t = X at *
  go_enter Tryz.func16, Tryz.ntmps16
  go_wp2_with fail
  refine HS.out.mono ?_
  rintro e w2 ⟨rfl, b2⟩
  go_wp2_with fail
  go_ret
  exact ⟨rfl, b0.trans (b2.mono b0.size)⟩

end Go.Proofs.YtjfoagmenehapaaGreatDoor

namespace Go.Proofs.YtjfoagmenehapaaGreatDoor
open Go.RowKit Go.Joins

set_option maxHeartbeats 1000000 in
set_option maxRecDepth 100000 in
theorem fit4 (mb : Nat) (t : ByteArray) (a : Option Addr) (n cap : Nat) (w : World) (hm : mb < w.heap.size) (hK : KM w mb) :
    Calls Tryz.prog 16 #[.agg #[.map (some mb)], .agg #[.int .i64 4, .string t, .slice a n cap]] w fun e w' => e = .returned (.bool (tx 6 t)) ∧ Below w.heap.size w w' := by
  have b0 : Below w.heap.size w ((w.alloc (.cells #[.map (some mb)] 42)).alloc (.cells #[.int .i64 4, .string t, .slice a n cap] 29)) := ((Below.refl _ _).alloc (Nat.le_refl _) _).alloc (by simp) _
  have HS := hide (iText mb 6 t _ (Nat.lt_of_lt_of_le hm b0.size) (hK.below b0 hm))
  clear hm hK
  generalize tx 6 t = X at *
  go_enter Tryz.func16, Tryz.ntmps16
  go_wp2_with fail
  refine HS.out.mono ?_
  rintro e w2 ⟨rfl, b2⟩
  go_wp2_with fail
  go_ret
  exact ⟨rfl, b0.trans (b2.mono b0.size)⟩

set_option maxHeartbeats 1000000 in
set_option maxRecDepth 100000 in
theorem fit30 (mb : Nat) (t : ByteArray) (a : Option Addr) (n cap : Nat) (w : World) (hm : mb < w.heap.size) (hK : KM w mb) :
    Calls Tryz.prog 16 #[.agg #[.map (some mb)], .agg #[.int .i64 30, .string t, .slice a n cap]] w fun e w' => e = .returned (.bool (tx 1 t)) ∧ Below w.heap.size w w' := by
  have b0 : Below w.heap.size w ((w.alloc (.cells #[.map (some mb)] 42)).alloc (.cells #[.int .i64 30, .string t, .slice a n cap] 29)) := ((Below.refl _ _).alloc (Nat.le_refl _) _).alloc (by simp) _
  have HS := hide (iText mb 1 t _ (Nat.lt_of_lt_of_le hm b0.size) (hK.below b0 hm))
  clear hm hK
  generalize tx 1 t = X at *
  go_enter Tryz.func16, Tryz.ntmps16
  go_wp2_with fail
  refine HS.out.mono ?_
  rintro e w2 ⟨rfl, b2⟩
  go_wp2_with fail
  go_ret
  exact ⟨rfl, b0.trans (b2.mono b0.size)⟩

set_option maxHeartbeats 1000000 in
set_option maxRecDepth 100000 in
theorem fit35 (mb : Nat) (t : ByteArray) (a : Option Addr) (n cap : Nat) (w : World) (hm : mb < w.heap.size) (hK : KM w mb) :
    Calls Tryz.prog 16 #[.agg #[.map (some mb)], .agg #[.int .i64 35, .string t, .slice a n cap]] w fun e w' => e = .returned (.bool (tx 7 t)) ∧ Below w.heap.size w w' := by
  have b0 : Below w.heap.size w ((w.alloc (.cells #[.map (some mb)] 42)).alloc (.cells #[.int .i64 35, .string t, .slice a n cap] 29)) := ((Below.refl _ _).alloc (Nat.le_refl _) _).alloc (by simp) _
  have HS := hide (iText mb 7 t _ (Nat.lt_of_lt_of_le hm b0.size) (hK.below b0 hm))
  clear hm hK
  generalize tx 7 t = X at *
  go_enter Tryz.func16, Tryz.ntmps16
  go_wp2_with fail
  refine HS.out.mono ?_
  rintro e w2 ⟨rfl, b2⟩
  go_wp2_with fail
  go_ret
  exact ⟨rfl, b0.trans (b2.mono b0.size)⟩

set_option maxHeartbeats 1000000 in
set_option maxRecDepth 100000 in
theorem fit61 (mb : Nat) (t : ByteArray) (a : Option Addr) (n cap : Nat) (w : World) (hm : mb < w.heap.size) (hK : KM w mb) :
    Calls Tryz.prog 16 #[.agg #[.map (some mb)], .agg #[.int .i64 61, .string t, .slice a n cap]] w fun e w' => e = .returned (.bool (vr t)) ∧ Below w.heap.size w w' := by
  have b0 : Below w.heap.size w ((w.alloc (.cells #[.map (some mb)] 42)).alloc (.cells #[.int .i64 61, .string t, .slice a n cap] 29)) := ((Below.refl _ _).alloc (Nat.le_refl _) _).alloc (by simp) _
  have HS := hide (iVar mb t _ (Nat.lt_of_lt_of_le hm b0.size) (hK.below b0 hm))
  clear hm hK
  generalize vr t = X at *
  go_enter Tryz.func16, Tryz.ntmps16
  go_wp2_with fail
  refine HS.out.mono ?_
  rintro e w2 ⟨rfl, b2⟩
  go_wp2_with fail
  go_ret
  exact ⟨rfl, b0.trans (b2.mono b0.size)⟩

set_option maxHeartbeats 1000000 in
set_option maxRecDepth 100000 in
theorem fit65 (mb : Nat) (t : ByteArray) (a : Option Addr) (n cap : Nat) (w : World) (hm : mb < w.heap.size) (hK : KM w mb) :
    Calls Tryz.prog 16 #[.agg #[.map (some mb)], .agg #[.int .i64 65, .string t, .slice a n cap]] w fun e w' => e = .returned (.bool (tx 2 t)) ∧ Below w.heap.size w w' := by
  have b0 : Below w.heap.size w ((w.alloc (.cells #[.map (some mb)] 42)).alloc (.cells #[.int .i64 65, .string t, .slice a n cap] 29)) := ((Below.refl _ _).alloc (Nat.le_refl _) _).alloc (by simp) _
  have HS := hide (iText mb 2 t _ (Nat.lt_of_lt_of_le hm b0.size) (hK.below b0 hm))
  clear hm hK
  generalize tx 2 t = X at *
  go_enter Tryz.func16, Tryz.ntmps16
  go_wp2_with fail
  refine HS.out.mono ?_
  rintro e w2 ⟨rfl, b2⟩
  go_wp2_with fail
  go_ret
  exact ⟨rfl, b0.trans (b2.mono b0.size)⟩

set_option maxHeartbeats 1000000 in
set_option maxRecDepth 100000 in
theorem fit70 (mb : Nat) (t : ByteArray) (a : Option Addr) (n cap : Nat) (w : World) :
    Calls Tryz.prog 16 #[.agg #[.map (some mb)], .agg #[.int .i64 70, .string t, .slice a n cap]] w fun e w' => e = .returned (.bool ((t.toList.isEmpty || (t.toList == [97, 108, 108] && n == 0)))) ∧ Below w.heap.size w w' := by
  have b0 : Below w.heap.size w ((w.alloc (.cells #[.map (some mb)] 42)).alloc (.cells #[.int .i64 70, .string t, .slice a n cap] 29)) := ((Below.refl _ _).alloc (Nat.le_refl _) _).alloc (by simp) _
  rcases z1 : t.toList.isEmpty with _ | _
  · rcases z2 : (t.toList == [97, 108, 108]) with _ | _
    · go_enter Tryz.func16, Tryz.ntmps16
      go_wp2_with fail
      go_ret
      exact ⟨rfl, b0⟩
    · by_cases h : n = 0
      · subst h
        go_enter Tryz.func16, Tryz.ntmps16
        go_wp2_with fail
        go_ret
        exact ⟨rfl, b0⟩
      · have h' : ((n : Int) == 0) = false := beq_eq_false_iff_ne.2 (by omega)
        have h2 : (n == 0) = false := beq_eq_false_iff_ne.2 h
        rw [h2]
        go_enter Tryz.func16, Tryz.ntmps16
        go_wp2_with fail
        go_ret
        exact ⟨rfl, b0⟩
  · go_enter Tryz.func16, Tryz.ntmps16
    go_wp2_with fail
    go_ret
    exact ⟨rfl, b0⟩

set_option maxHeartbeats 1000000 in
set_option maxRecDepth 100000 in
theorem fitElse (mb : Nat) (k : Int) (t : ByteArray) (a : Option Addr) (n cap : Nat) (w : World) (n1 : k ≠ 1) (n2 : k ≠ 2) (n3 : k ≠ 3) (n4 : k ≠ 4) (n5 : k ≠ 5) (n15 : k ≠ 15) (n16 : k ≠ 16) (n30 : k ≠ 30) (n32 : k ≠ 32) (n33 : k ≠ 33) (n34 : k ≠ 34) (n35 : k ≠ 35) (n38 : k ≠ 38) (n50 : k ≠ 50) (n51 : k ≠ 51) (n61 : k ≠ 61) (n62 : k ≠ 62) (n63 : k ≠ 63) (n64 : k ≠ 64) (n65 : k ≠ 65) (n66 : k ≠ 66) (n67 : k ≠ 67) (n68 : k ≠ 68) (n70 : k ≠ 70) (n71 : k ≠ 71) :
    Calls Tryz.prog 16 #[.agg #[.map (some mb)], .agg #[.int .i64 k, .string t, .slice a n cap]] w fun e w' => e = .returned (.bool t.toList.isEmpty) ∧ Below w.heap.size w w' := by
  have b0 : Below w.heap.size w ((w.alloc (.cells #[.map (some mb)] 42)).alloc (.cells #[.int .i64 k, .string t, .slice a n cap] 29)) := ((Below.refl _ _).alloc (Nat.le_refl _) _).alloc (by simp) _
  have z1 : (k == 1) = false := beq_eq_false_iff_ne.2 n1
  have z2 : (k == 2) = false := beq_eq_false_iff_ne.2 n2
  have z3 : (k == 3) = false := beq_eq_false_iff_ne.2 n3
  have z4 : (k == 4) = false := beq_eq_false_iff_ne.2 n4
  have z5 : (k == 5) = false := beq_eq_false_iff_ne.2 n5
  have z15 : (k == 15) = false := beq_eq_false_iff_ne.2 n15
  have z16 : (k == 16) = false := beq_eq_false_iff_ne.2 n16
  have z30 : (k == 30) = false := beq_eq_false_iff_ne.2 n30
  have z32 : (k == 32) = false := beq_eq_false_iff_ne.2 n32
  have z33 : (k == 33) = false := beq_eq_false_iff_ne.2 n33
  have z34 : (k == 34) = false := beq_eq_false_iff_ne.2 n34
  have z35 : (k == 35) = false := beq_eq_false_iff_ne.2 n35
  have z38 : (k == 38) = false := beq_eq_false_iff_ne.2 n38
  have z50 : (k == 50) = false := beq_eq_false_iff_ne.2 n50
  have z51 : (k == 51) = false := beq_eq_false_iff_ne.2 n51
  have z61 : (k == 61) = false := beq_eq_false_iff_ne.2 n61
  have z62 : (k == 62) = false := beq_eq_false_iff_ne.2 n62
  have z63 : (k == 63) = false := beq_eq_false_iff_ne.2 n63
  have z64 : (k == 64) = false := beq_eq_false_iff_ne.2 n64
  have z65 : (k == 65) = false := beq_eq_false_iff_ne.2 n65
  have z66 : (k == 66) = false := beq_eq_false_iff_ne.2 n66
  have z67 : (k == 67) = false := beq_eq_false_iff_ne.2 n67
  have z68 : (k == 68) = false := beq_eq_false_iff_ne.2 n68
  have z70 : (k == 70) = false := beq_eq_false_iff_ne.2 n70
  have z71 : (k == 71) = false := beq_eq_false_iff_ne.2 n71
  clear n1 n2 n3 n4 n5 n15 n16 n30 n32 n33 n34 n35 n38 n50 n51 n61 n62 n63 n64 n65 n66 n67 n68 n70 n71
  go_enter Tryz.func16, Tryz.ntmps16
  go_wp2_with fail
  go_ret
  exact ⟨rfl, b0⟩

end Go.Proofs.YtjfoagmenehapaaGreatDoor

namespace Go.Proofs.YtjfoagmenehapaaGreatDoor
open Go.RowKit Go.Joins

set_option maxHeartbeats 1000000 in
set_option maxRecDepth 100000 in
theorem nok1 (t : ByteArray) (a : Option Addr) (n cap : Nat) (w : World) :
    Calls Tryz.prog 30 #[.agg #[.int .i64 1, .string t, .slice a n cap]] w fun e w' => e = .returned (.bool (vr t)) ∧ Below w.heap.size w w' := by
  have b0 : Below w.heap.size w (w.alloc (.cells #[.int .i64 1, .string t, .slice a n cap] 29)) := below_alloc1 _ _
  have HS := hide (mName t (w.alloc (.cells #[.int .i64 1, .string t, .slice a n cap] 29)))
  generalize vr t = X at *
  go_enter Tryz.func30, Tryz.ntmps30
  go_wp2_with fail
  refine HS.out.mono ?_
  rintro e w2 ⟨rfl, b2⟩
  go_wp2_with fail
  go_ret
  exact ⟨rfl, b0.trans (b2.mono b0.size)⟩

set_option maxHeartbeats 1000000 in
set_option maxRecDepth 100000 in
theorem nok5 (t : ByteArray) (a : Option Addr) (n cap : Nat) (w : World) :
    Calls Tryz.prog 30 #[.agg #[.int .i64 5, .string t, .slice a n cap]] w fun e w' => e = .returned (.bool (tx 7 t)) ∧ Below w.heap.size w w' := by
  have b0 : Below w.heap.size w (w.alloc (.cells #[.int .i64 5, .string t, .slice a n cap] 29)) := below_alloc1 _ _
  have HS := hide (mText 7 t (w.alloc (.cells #[.int .i64 5, .string t, .slice a n cap] 29)))
  generalize tx 7 t = X at *
  go_enter Tryz.func30, Tryz.ntmps30
  go_wp2_with fail
  refine HS.out.mono ?_
  rintro e w2 ⟨rfl, b2⟩
  go_wp2_with fail
  go_ret
  exact ⟨rfl, b0.trans (b2.mono b0.size)⟩

set_option maxHeartbeats 1000000 in
set_option maxRecDepth 100000 in
theorem nok32 (t : ByteArray) (a : Option Addr) (n cap : Nat) (w : World) :
    Calls Tryz.prog 30 #[.agg #[.int .i64 32, .string t, .slice a n cap]] w fun e w' => e = .returned (.bool (cn t)) ∧ Below w.heap.size w w' := by
  have b0 : Below w.heap.size w (w.alloc (.cells #[.int .i64 32, .string t, .slice a n cap] 29)) := below_alloc1 _ _
  have HS := hide (mCon t (w.alloc (.cells #[.int .i64 32, .string t, .slice a n cap] 29)))
  generalize cn t = X at *
  go_enter Tryz.func30, Tryz.ntmps30
  go_wp2_with fail
  refine HS.out.mono ?_
  rintro e w2 ⟨rfl, b2⟩
  go_wp2_with fail
  go_ret
  exact ⟨rfl, b0.trans (b2.mono b0.size)⟩

set_option maxHeartbeats 1000000 in
set_option maxRecDepth 100000 in
theorem nok50 (t : ByteArray) (a : Option Addr) (n cap : Nat) (w : World) :
    Calls Tryz.prog 30 #[.agg #[.int .i64 50, .string t, .slice a n cap]] w fun e w' => e = .returned (.bool (tx 1 t)) ∧ Below w.heap.size w w' := by
  have b0 : Below w.heap.size w (w.alloc (.cells #[.int .i64 50, .string t, .slice a n cap] 29)) := below_alloc1 _ _
  have HS := hide (mText 1 t (w.alloc (.cells #[.int .i64 50, .string t, .slice a n cap] 29)))
  generalize tx 1 t = X at *
  go_enter Tryz.func30, Tryz.ntmps30
  go_wp2_with fail
  refine HS.out.mono ?_
  rintro e w2 ⟨rfl, b2⟩
  go_wp2_with fail
  go_ret
  exact ⟨rfl, b0.trans (b2.mono b0.size)⟩

set_option maxHeartbeats 1000000 in
set_option maxRecDepth 100000 in
theorem nok63 (t : ByteArray) (a : Option Addr) (n cap : Nat) (w : World) :
    Calls Tryz.prog 30 #[.agg #[.int .i64 63, .string t, .slice a n cap]] w fun e w' => e = .returned (.bool (tx 2 t)) ∧ Below w.heap.size w w' := by
  have b0 : Below w.heap.size w (w.alloc (.cells #[.int .i64 63, .string t, .slice a n cap] 29)) := below_alloc1 _ _
  have HS := hide (mText 2 t (w.alloc (.cells #[.int .i64 63, .string t, .slice a n cap] 29)))
  generalize tx 2 t = X at *
  go_enter Tryz.func30, Tryz.ntmps30
  go_wp2_with fail
  refine HS.out.mono ?_
  rintro e w2 ⟨rfl, b2⟩
  go_wp2_with fail
  go_ret
  exact ⟨rfl, b0.trans (b2.mono b0.size)⟩

set_option maxHeartbeats 1000000 in
set_option maxRecDepth 100000 in
theorem nok67 (t : ByteArray) (a : Option Addr) (n cap : Nat) (w : World) :
    Calls Tryz.prog 30 #[.agg #[.int .i64 67, .string t, .slice a n cap]] w fun e w' => e = .returned (.bool (tx 2 t)) ∧ Below w.heap.size w w' := by
  have b0 : Below w.heap.size w (w.alloc (.cells #[.int .i64 67, .string t, .slice a n cap] 29)) := below_alloc1 _ _
  have HS := hide (mText 2 t (w.alloc (.cells #[.int .i64 67, .string t, .slice a n cap] 29)))
  generalize tx 2 t = X at *
  go_enter Tryz.func30, Tryz.ntmps30
  go_wp2_with fail
  refine HS.out.mono ?_
  rintro e w2 ⟨rfl, b2⟩
  go_wp2_with fail
  go_ret
  exact ⟨rfl, b0.trans (b2.mono b0.size)⟩

end Go.Proofs.YtjfoagmenehapaaGreatDoor

