import Derived.Test.YtjfoagmenehapaaGreatDoorQ18
namespace Go.Proofs.YtjfoagmenehapaaGreatDoor
open Go.RowKit Go.Joins

theorem escB_len (m : UInt8) : ∀ L : List UInt8, (L.flatMap (escB m)).length ≤ 2 * L.length
  | [] => by simp
  | b :: L => by
    have := escB_len m L
    have h2 : (escB m b).length ≤ 2 := by
      unfold escB
      split
      · simp
      · split <;> simp
    rw [List.flatMap_cons, List.length_append, List.length_cons]
    omega
theorem escA_len (m : UInt8) (t : ByteArray) : (escA m t).size ≤ 2 * t.size + 2 := by
  have h := escB_len m t.data.toList
  have e : (escA m t).size = (escT m t).length := by simp [escA, ByteArray.size]
  have e2 : t.data.toList.length = t.size := by rw [Array.length_toList]; rfl
  rw [e]
  unfold escT
  simp only [List.length_append, List.length_cons, List.length_nil]
  omega

set_option maxHeartbeats 1000000 in
set_option maxRecDepth 100000 in
theorem iWith6 (mb : Nat) (l c : Int) (t : ByteArray) (w : World) (hm : mb < w.heap.size) (hK : KM w mb) (ht : t.size ≤ 60000) :
    Calls Tryz.prog 39 #[.map (some mb), .agg #[.int .i64 6, .string t, .int .i64 l, .int .i64 c]] w fun e w' => e = .returned (.string (rd 6 t (escA 39 t))) ∧ Below w.heap.size w w' := by
  have hz := escA_len 39 t
  have HR : Hid (∀ wx, Below w.heap.size w wx → Calls Tryz.prog 60 #[.map (some mb), .agg #[.int .i64 6, .string t, .int .i64 l, .int .i64 c], .string (escA 39 t)] wx fun e w' => e = .returned (.string (rd 6 t (escA 39 t))) ∧ Below wx.heap.size wx w') := fun wx hb => iIfRead mb 6 l c t (escA 39 t) wx (Nat.lt_of_lt_of_le hm hb.size) (hK.below hb hm) (by omega)
  have HC : Hid (∀ wx, Calls Tryz.prog 61 #[.string t, .int .i32 39] wx fun e w' => e = .returned (.string (escA 39 t)) ∧ Below wx.heap.size wx w') := fun wx => iQuote t 39 (by decide) wx ht
  clear hz
  generalize rd 6 t (escA 39 t) = X at *
  generalize escA 39 t = E at *
  have ht' : ¬ (60000 : Int) < t.size := by omega
  have b0 := below_alloc1 w (.cells #[.int .i64 6, .string t, .int .i64 l, .int .i64 c] 65)
  have P := B4.new w (.int .i64 6) (.string t) (.int .i64 l) (.int .i64 c) 65
  clear hK
  go_enter Tryz.func39, Tryz.ntmps39
  go_upto_region 10 with fail
  generalize w.alloc (.cells #[.int .i64 6, .string t, .int .i64 l, .int .i64 c] 65) = v at *
  obtain ⟨c0, c1, c2, c3, lt⟩ := id P
  have S0 : v.drew.cell? ⟨w.heap.size, 0, none⟩ = some (.int .i64 6) ∧ v.drew.cell? ⟨w.heap.size, 1, none⟩ = some (.string t) ∧ v.drew.cell? ⟨w.heap.size, 2, none⟩ = some (.int .i64 l) ∧ v.drew.cell? ⟨w.heap.size, 3, none⟩ = some (.int .i64 c) := ⟨c0, c1, c2, c3⟩
  go_region_held3 (fun w' => w'.cell? ⟨w.heap.size, 0, none⟩ = some (.int .i64 6) ∧ w'.cell? ⟨w.heap.size, 1, none⟩ = some (.string t) ∧ w'.cell? ⟨w.heap.size, 2, none⟩ = some (.int .i64 l) ∧ w'.cell? ⟨w.heap.size, 3, none⟩ = some (.int .i64 c)) (first | exact S0 | exact S5 | exact S6) (first
    | (go_at_call 62; refine (iQuote6 _).mono ?_; rintro e w4 ⟨rfl, hw4⟩; obtain rfl : v.drew = w4 := hw4.symm)
    | (go_at_call 61; refine (HC.out v.drew).mono ?_; rintro e w5 ⟨rfl, b5⟩; have hb5 := b0.drew.trans (b5.mono b0.size); have Q5 := P.keep (b5.block _ lt) b5.size; have S5 : w5.cell? ⟨w.heap.size, 0, none⟩ = some (.int .i64 6) ∧ w5.cell? ⟨w.heap.size, 1, none⟩ = some (.string t) ∧ w5.cell? ⟨w.heap.size, 2, none⟩ = some (.int .i64 l) ∧ w5.cell? ⟨w.heap.size, 3, none⟩ = some (.int .i64 c) := ⟨Q5.c0, Q5.c1, Q5.c2, Q5.c3⟩)
    | (go_at_call 60; refine (HR.out w5 hb5).mono ?_; rintro e w6 ⟨rfl, b6⟩; have hb6 := hb5.trans (b6.mono hb5.size); have Q6 := Q5.keep (b6.block _ Q5.lt) b6.size; have S6 : w6.cell? ⟨w.heap.size, 0, none⟩ = some (.int .i64 6) ∧ w6.cell? ⟨w.heap.size, 1, none⟩ = some (.string t) ∧ w6.cell? ⟨w.heap.size, 2, none⟩ = some (.int .i64 l) ∧ w6.cell? ⟨w.heap.size, 3, none⟩ = some (.int .i64 c) := ⟨Q6.c0, Q6.c1, Q6.c2, Q6.c3⟩))
  all_goals
    go_wp2_with fail
    go_ret
    exact ⟨rfl, hb6⟩

set_option maxHeartbeats 1000000 in
set_option maxRecDepth 100000 in
theorem iWith7 (mb : Nat) (l c : Int) (t : ByteArray) (w : World) (hm : mb < w.heap.size) (hK : KM w mb) (ht : t.size ≤ 60000) :
    Calls Tryz.prog 39 #[.map (some mb), .agg #[.int .i64 7, .string t, .int .i64 l, .int .i64 c]] w fun e w' => e = .returned (.string (rd 7 t (escA 34 t))) ∧ Below w.heap.size w w' := by
  have hz := escA_len 34 t
  have HR : Hid (∀ wx, Below w.heap.size w wx → Calls Tryz.prog 60 #[.map (some mb), .agg #[.int .i64 7, .string t, .int .i64 l, .int .i64 c], .string (escA 34 t)] wx fun e w' => e = .returned (.string (rd 7 t (escA 34 t))) ∧ Below wx.heap.size wx w') := fun wx hb => iIfRead mb 7 l c t (escA 34 t) wx (Nat.lt_of_lt_of_le hm hb.size) (hK.below hb hm) (by omega)
  have HC : Hid (∀ wx, Calls Tryz.prog 61 #[.string t, .int .i32 34] wx fun e w' => e = .returned (.string (escA 34 t)) ∧ Below wx.heap.size wx w') := fun wx => iQuote t 34 (by decide) wx ht
  clear hz
  generalize rd 7 t (escA 34 t) = X at *
  generalize escA 34 t = E at *
  have ht' : ¬ (60000 : Int) < t.size := by omega
  have b0 := below_alloc1 w (.cells #[.int .i64 7, .string t, .int .i64 l, .int .i64 c] 65)
  have P := B4.new w (.int .i64 7) (.string t) (.int .i64 l) (.int .i64 c) 65
  clear hK
  go_enter Tryz.func39, Tryz.ntmps39
  go_upto_region 10 with fail
  generalize w.alloc (.cells #[.int .i64 7, .string t, .int .i64 l, .int .i64 c] 65) = v at *
  obtain ⟨c0, c1, c2, c3, lt⟩ := id P
  have S0 : v.drew.cell? ⟨w.heap.size, 0, none⟩ = some (.int .i64 7) ∧ v.drew.cell? ⟨w.heap.size, 1, none⟩ = some (.string t) ∧ v.drew.cell? ⟨w.heap.size, 2, none⟩ = some (.int .i64 l) ∧ v.drew.cell? ⟨w.heap.size, 3, none⟩ = some (.int .i64 c) := ⟨c0, c1, c2, c3⟩
  go_region_held3 (fun w' => w'.cell? ⟨w.heap.size, 0, none⟩ = some (.int .i64 7) ∧ w'.cell? ⟨w.heap.size, 1, none⟩ = some (.string t) ∧ w'.cell? ⟨w.heap.size, 2, none⟩ = some (.int .i64 l) ∧ w'.cell? ⟨w.heap.size, 3, none⟩ = some (.int .i64 c)) (first | exact S0 | exact S5 | exact S6) (first
    | (go_at_call 62; refine (iQuote7 _).mono ?_; rintro e w4 ⟨rfl, hw4⟩; obtain rfl : v.drew = w4 := hw4.symm)
    | (go_at_call 61; refine (HC.out v.drew).mono ?_; rintro e w5 ⟨rfl, b5⟩; have hb5 := b0.drew.trans (b5.mono b0.size); have Q5 := P.keep (b5.block _ lt) b5.size; have S5 : w5.cell? ⟨w.heap.size, 0, none⟩ = some (.int .i64 7) ∧ w5.cell? ⟨w.heap.size, 1, none⟩ = some (.string t) ∧ w5.cell? ⟨w.heap.size, 2, none⟩ = some (.int .i64 l) ∧ w5.cell? ⟨w.heap.size, 3, none⟩ = some (.int .i64 c) := ⟨Q5.c0, Q5.c1, Q5.c2, Q5.c3⟩)
    | (go_at_call 60; refine (HR.out w5 hb5).mono ?_; rintro e w6 ⟨rfl, b6⟩; have hb6 := hb5.trans (b6.mono hb5.size); have Q6 := Q5.keep (b6.block _ Q5.lt) b6.size; have S6 : w6.cell? ⟨w.heap.size, 0, none⟩ = some (.int .i64 7) ∧ w6.cell? ⟨w.heap.size, 1, none⟩ = some (.string t) ∧ w6.cell? ⟨w.heap.size, 2, none⟩ = some (.int .i64 l) ∧ w6.cell? ⟨w.heap.size, 3, none⟩ = some (.int .i64 c) := ⟨Q6.c0, Q6.c1, Q6.c2, Q6.c3⟩))
  all_goals
    go_wp2_with fail
    go_ret
    exact ⟨rfl, hb6⟩

end Go.Proofs.YtjfoagmenehapaaGreatDoor

namespace Go.Proofs.YtjfoagmenehapaaGreatDoor
open Go.RowKit Go.Joins

set_option maxHeartbeats 1000000 in
set_option maxRecDepth 100000 in
theorem iWithLong (mb : Nat) (k l c : Int) (t : ByteArray) (w : World) (ht : 60000 < t.size) :
    Calls Tryz.prog 39 #[.map (some mb), .agg #[.int .i64 k, .string t, .int .i64 l, .int .i64 c]] w fun e w' => e = .returned (.string ⟨#[]⟩) ∧ Below w.heap.size w w' := by
  have ht' : (60000 : Int) < t.size := by omega
  go_enter Tryz.func39, Tryz.ntmps39
  go_wp2_with fail
  go_ret
  exact ⟨rfl, below_alloc1 _ _⟩

/-- The layout's three texts. -/
def lay (t : ByteArray) : Bool := (t.toList == [123]) || ((t.toList == [59]) || (t.toList == [125]))

set_option maxHeartbeats 1000000 in
set_option maxRecDepth 100000 in
theorem iWith11 (mb : Nat) (l c : Int) (t : ByteArray) (w : World) (ht : t.size ≤ 60000) :
    Calls Tryz.prog 39 #[.map (some mb), .agg #[.int .i64 11, .string t, .int .i64 l, .int .i64 c]] w fun e w' => e = .returned (.string (if lay t = true then t else ⟨#[]⟩)) ∧ Below w.heap.size w w' := by
  obtain ⟨X, hX⟩ : ∃ X, X = (if lay t = true then t else (⟨#[]⟩ : ByteArray)) := ⟨_, rfl⟩
  rw [← hX]
  unfold lay at hX
  have HC : Hid (∀ wx, Calls Tryz.prog 59 #[.string t] wx fun e w' => e = .returned (.string t) ∧ Below wx.heap.size wx w') := fun wx => iClone t wx (by omega)
  have ht' : ¬ (60000 : Int) < t.size := by omega
  have b0 := below_alloc1 w (.cells #[.int .i64 11, .string t, .int .i64 l, .int .i64 c] 65)
  rcases z1 : (t.toList == [123]) with _ | _
  · rcases z2 : (t.toList == [59]) with _ | _
    · rcases z3 : (t.toList == [125]) with _ | _
      · rw [z1, z2, z3] at hX
        have HX : Hid (X = ⟨#[]⟩) := hX
        clear hX
        go_enter Tryz.func39, Tryz.ntmps39
        go_wp2_with fail
        go_ret
        exact ⟨by rw [HX.out]; rfl, b0⟩
      · rw [z1, z2, z3] at hX
        have HX : Hid (X = t) := hX
        clear hX
        go_enter Tryz.func39, Tryz.ntmps39
        go_wp2_with fail
        refine (HC.out _).mono ?_
        rintro e w2 ⟨rfl, b2⟩
        go_wp2_with fail
        go_ret
        exact ⟨by rw [HX.out]; rfl, b0.trans (b2.mono b0.size)⟩
    · rw [z1, z2] at hX
      have HX : Hid (X = t) := hX
      clear hX
      go_enter Tryz.func39, Tryz.ntmps39
      go_wp2_with fail
      refine (HC.out _).mono ?_
      rintro e w2 ⟨rfl, b2⟩
      go_wp2_with fail
      go_ret
      exact ⟨by rw [HX.out]; rfl, b0.trans (b2.mono b0.size)⟩
  · rw [z1] at hX
    have HX : Hid (X = t) := hX
    clear hX
    go_enter Tryz.func39, Tryz.ntmps39
    go_wp2_with fail
    refine (HC.out _).mono ?_
    rintro e w2 ⟨rfl, b2⟩
    go_wp2_with fail
    go_ret
    exact ⟨by rw [HX.out]; rfl, b0.trans (b2.mono b0.size)⟩

/-- How a token is written, or nothing. -/
def sp (k : Int) (t : ByteArray) : ByteArray :=
  if 60000 < t.size then ⟨#[]⟩ else if k = 11 then (if lay t = true then t else ⟨#[]⟩) else if k = 6 then rd 6 t (escA 39 t) else if k = 7 then rd 7 t (escA 34 t) else rd k t t

theorem iWith (mb : Nat) (k l c : Int) (t : ByteArray) (w : World) (hm : mb < w.heap.size) (hK : KM w mb) :
    Calls Tryz.prog 39 #[.map (some mb), .agg #[.int .i64 k, .string t, .int .i64 l, .int .i64 c]] w fun e w' => e = .returned (.string (sp k t)) ∧ Below w.heap.size w w' := by
  unfold sp
  by_cases h0 : 60000 < t.size
  · rw [if_pos h0]; exact iWithLong mb k l c t w h0
  · rw [if_neg h0]
    by_cases h1 : k = 11
    · rw [if_pos h1]; subst h1; exact iWith11 mb l c t w (by omega)
    · rw [if_neg h1]
      by_cases h2 : k = 6
      · rw [if_pos h2]; subst h2; exact iWith6 mb l c t w hm hK (by omega)
      · rw [if_neg h2]
        by_cases h3 : k = 7
        · rw [if_pos h3]; subst h3; exact iWith7 mb l c t w hm hK (by omega)
        · rw [if_neg h3]; exact iWithElse mb k l c t w hm hK (by omega) h1 h2 h3

end Go.Proofs.YtjfoagmenehapaaGreatDoor

namespace Go.Proofs.YtjfoagmenehapaaGreatDoor
open Go.RowKit Go.Joins

end Go.Proofs.YtjfoagmenehapaaGreatDoor

namespace Go.Proofs.YtjfoagmenehapaaGreatDoor
open Go.RowKit Go.Joins

/-- How the model writes a token. -/
def ms (k : Int) (t : ByteArray) : ByteArray := if k = 7 then escA 34 t else if k = 6 then escA 39 t else t

set_option maxHeartbeats 1000000 in
set_option maxRecDepth 100000 in
theorem mSpell (k l c : Int) (t : ByteArray) (w : World) (ht : t.size ≤ 1048576) :
    Calls Tryz.prog 96 #[.agg #[.int .i64 k, .string t, .int .i64 l, .int .i64 c]] w fun e w' => e = .returned (.string (ms k t)) ∧ Below w.heap.size w w' := by
  have b0 := below_alloc1 w (.cells #[.int .i64 k, .string t, .int .i64 l, .int .i64 c] 65)
  have E34 : Hid (∀ wx, Calls Tryz.prog 108 #[.string t, .int .u8 34] wx fun e w' => e = .returned (.string (escA 34 t)) ∧ Below wx.heap.size wx w') := fun wx => mEscape t 34 wx ht
  have E39 : Hid (∀ wx, Calls Tryz.prog 108 #[.string t, .int .u8 39] wx fun e w' => e = .returned (.string (escA 39 t)) ∧ Below wx.heap.size wx w') := fun wx => mEscape t 39 wx ht
  unfold ms
  by_cases h7 : k = 7
  · rw [if_pos h7]
    subst h7
    generalize escA 34 t = X at *
    go_enter Tryz.func96, Tryz.ntmps96
    go_wp2_with fail
    refine (E34.out _).mono ?_
    rintro e w2 ⟨rfl, b2⟩
    go_wp2_with fail
    go_ret
    exact ⟨rfl, b0.trans (b2.mono b0.size)⟩
  · rw [if_neg h7]
    have z7 : (k == 7) = false := by simpa using h7
    by_cases h6 : k = 6
    · rw [if_pos h6]
      subst h6
      generalize escA 39 t = X at *
      go_enter Tryz.func96, Tryz.ntmps96
      go_wp2_with fail
      refine (E39.out _).mono ?_
      rintro e w2 ⟨rfl, b2⟩
      go_wp2_with fail
      go_ret
      exact ⟨rfl, b0.trans (b2.mono b0.size)⟩
    · rw [if_neg h6]
      have z6 : (k == 6) = false := by simpa using h6
      clear h6 h7
      go_enter Tryz.func96, Tryz.ntmps96
      go_wp2_with fail
      go_ret
      exact ⟨rfl, b0⟩

end Go.Proofs.YtjfoagmenehapaaGreatDoor

namespace Go.Proofs.YtjfoagmenehapaaGreatDoor
open Go.RowKit Go.Joins

set_option maxHeartbeats 1000000 in
set_option maxRecDepth 100000 in
theorem mFaultLong (k l c : Int) (t : ByteArray) (w : World) (ht : 60000 < t.size) :
    Calls Tryz.prog 78 #[.agg #[.int .i64 k, .string t, .int .i64 l, .int .i64 c]] w fun e w' => e = .returned (.bool true) ∧ Below w.heap.size w w' := by
  have ht' : (60000 : Int) < t.size := by omega
  go_enter Tryz.func78, Tryz.ntmps78
  go_wp2_with fail
  go_ret
  exact ⟨rfl, below_alloc1 _ _⟩

set_option maxHeartbeats 1000000 in
set_option maxRecDepth 100000 in
theorem mFault6 (l c : Int) (t : ByteArray) (w : World) (ht : t.size ≤ 60000) :
    Calls Tryz.prog 78 #[.agg #[.int .i64 6, .string t, .int .i64 l, .int .i64 c]] w fun e w' => e = .returned (.bool (!(okT t && t.size == 1))) ∧ Below w.heap.size w w' := by
  have b0 := below_alloc1 w (.cells #[.int .i64 6, .string t, .int .i64 l, .int .i64 c] 65)
  have HB : Hid (∀ wx, Calls Tryz.prog 95 #[.string t] wx fun e w' => e = .returned (.bool (okT t)) ∧ w' = wx) := fun wx => mBytes t wx (by omega)
  have ht' : ¬ (60000 : Int) < t.size := by omega
  obtain ⟨X, hX⟩ : ∃ X, X = !(okT t && t.size == 1) := ⟨_, rfl⟩
  rw [← hX]
  by_cases h1 : t.size = 1
  · have HX : Hid (X = !okT t) := by unfold Hid; rw [hX, h1]; simp
    have h1' : ((t.size : Int) != 1) = false := by rw [h1]; rfl
    clear hX h1
    generalize okT t = R at *
    go_enter Tryz.func78, Tryz.ntmps78
    go_wp2_with fail
    refine (HB.out _).mono ?_
    rintro e w2 ⟨rfl, rfl⟩
    go_wp2_with fail
    go_ret
    exact ⟨by rw [HX.out]; rfl, b0⟩
  · have HX : Hid (X = true) := by unfold Hid; rw [hX]; simp [h1]
    have h1' : ((t.size : Int) != 1) = true := by simp; omega
    clear hX h1
    go_enter Tryz.func78, Tryz.ntmps78
    go_wp2_with fail
    go_ret
    exact ⟨by rw [HX.out]; rfl, b0⟩

end Go.Proofs.YtjfoagmenehapaaGreatDoor

namespace Go.Proofs.YtjfoagmenehapaaGreatDoor
open Go.RowKit Go.Joins

set_option maxHeartbeats 1000000 in
set_option maxRecDepth 100000 in
theorem mFault7 (l c : Int) (t : ByteArray) (w : World) (ht : t.size ≤ 60000) :
    Calls Tryz.prog 78 #[.agg #[.int .i64 7, .string t, .int .i64 l, .int .i64 c]] w fun e w' => e = .returned (.bool (!(okT t && decide ((escA 34 t).size ≤ 60000)))) ∧ Below w.heap.size w w' := by
  have b0 := below_alloc1 w (.cells #[.int .i64 7, .string t, .int .i64 l, .int .i64 c] 65)
  have P := B4.new w (.int .i64 7) (.string t) (.int .i64 l) (.int .i64 c) 65
  have HB : Hid (∀ wx, Calls Tryz.prog 95 #[.string t] wx fun e w' => e = .returned (.bool (okT t)) ∧ w' = wx) := fun wx => mBytes t wx (by omega)
  have HS : Hid (∀ wx, Calls Tryz.prog 96 #[.agg #[.int .i64 7, .string t, .int .i64 l, .int .i64 c]] wx fun e w' => e = .returned (.string (ms 7 t)) ∧ Below wx.heap.size wx w') := fun wx => mSpell 7 l c t wx (by omega)
  have hms : ms 7 t = escA 34 t := by unfold ms; rw [if_pos rfl]
  rw [hms] at HS
  clear hms
  have ht' : ¬ (60000 : Int) < t.size := by omega
  have hel := escA_len 34 t
  obtain ⟨X, hX⟩ : ∃ X, X = !(okT t && decide ((escA 34 t).size ≤ 60000)) := ⟨_, rfl⟩
  rw [← hX]
  rcases z1 : okT t with _ | _
  · have HX : Hid (X = true) := by unfold Hid; rw [hX, z1]; rfl
    rw [z1] at HB
    clear hX
    go_enter Tryz.func78, Tryz.ntmps78
    go_wp2_with fail
    refine (HB.out _).mono ?_
    rintro e w2 ⟨rfl, rfl⟩
    go_wp2_with fail
    go_ret
    exact ⟨by rw [HX.out]; rfl, b0⟩
  · rw [z1] at HB
    by_cases z2 : 60000 < (escA 34 t).size
    · have HX : Hid (X = true) := by unfold Hid; rw [hX, z1]; simp; omega
      have z2' : (60000 : Int) < ((escA 34 t).size : Nat) := by omega
      clear hX z2
      generalize escA 34 t = E at *
      go_enter Tryz.func78, Tryz.ntmps78
      go_wp2_with fail
      refine (HB.out _).mono ?_
      rintro e w2 ⟨rfl, rfl⟩
      go_wp2_with fail
      refine (HS.out _).mono ?_
      rintro e w3 ⟨rfl, b3⟩
      go_wp2_with fail
      go_ret
      exact ⟨by rw [HX.out]; rfl, b0.trans (b3.mono b0.size)⟩
    · have HX : Hid (X = false) := by unfold Hid; rw [hX, z1]; simp; omega
      have z2' : ¬ (60000 : Int) < ((escA 34 t).size : Nat) := by omega
      clear hX z2
      generalize escA 34 t = E at *
      go_enter Tryz.func78, Tryz.ntmps78
      go_wp2_with fail
      refine (HB.out _).mono ?_
      rintro e w2 ⟨rfl, rfl⟩
      go_wp2_with fail
      refine (HS.out _).mono ?_
      rintro e w3 ⟨rfl, b3⟩
      go_wp2_with fail
      go_ret
      exact ⟨by rw [HX.out]; show Ending.returned (.bool (decide ((60000 : Int) < (E.size : Nat)))) = _; rw [decide_eq_false (by omega)], b0.trans (b3.mono b0.size)⟩

end Go.Proofs.YtjfoagmenehapaaGreatDoor

namespace Go.Proofs.YtjfoagmenehapaaGreatDoor
open Go.RowKit Go.Joins

set_option maxHeartbeats 1000000 in
set_option maxRecDepth 100000 in
theorem mFault11 (l c : Int) (t : ByteArray) (w : World) (ht : t.size ≤ 60000) :
    Calls Tryz.prog 78 #[.agg #[.int .i64 11, .string t, .int .i64 l, .int .i64 c]] w fun e w' => e = .returned (.bool (!lay t)) ∧ Below w.heap.size w w' := by
  obtain ⟨X, hX⟩ : ∃ X, X = !lay t := ⟨_, rfl⟩
  rw [← hX]
  unfold lay at hX
  have ht' : ¬ (60000 : Int) < t.size := by omega
  have b0 := below_alloc1 w (.cells #[.int .i64 11, .string t, .int .i64 l, .int .i64 c] 65)
  rcases z1 : (t.toList == [123]) with _ | _
  · rcases z2 : (t.toList == [59]) with _ | _
    · rcases z3 : (t.toList == [125]) with _ | _
      · rw [z1, z2, z3] at hX
        have HX : Hid (X = true) := hX
        clear hX
        go_enter Tryz.func78, Tryz.ntmps78
        go_wp2_with fail
        go_ret
        exact ⟨by rw [HX.out]; rfl, b0⟩
      · rw [z1, z2, z3] at hX
        have HX : Hid (X = false) := hX
        clear hX
        go_enter Tryz.func78, Tryz.ntmps78
        go_wp2_with fail
        go_ret
        exact ⟨by rw [HX.out]; rfl, b0⟩
    · rw [z1, z2] at hX
      have HX : Hid (X = false) := hX
      clear hX
      go_enter Tryz.func78, Tryz.ntmps78
      go_wp2_with fail
      go_ret
      exact ⟨by rw [HX.out]; rfl, b0⟩
  · rw [z1] at hX
    have HX : Hid (X = false) := hX
    clear hX
    go_enter Tryz.func78, Tryz.ntmps78
    go_wp2_with fail
    go_ret
    exact ⟨by rw [HX.out]; rfl, b0⟩

set_option maxHeartbeats 1000000 in
set_option maxRecDepth 100000 in
theorem mFaultElseG (q1 q2 q3 : Nat) (T : List To) (hq : q1 ≠ 0 → T = []) (k l c : Int) (t : ByteArray) (w : World) (ht : t.size ≤ 60000) (h0 : t.size ≠ 0) (n1 : k ≠ 11) (n2 : k ≠ 6) (n3 : k ≠ 7)
    (HL : Hid (∀ w1, Calls Tryz.prog 97 #[.string t] w1 (PostA q1 q2 q3 T w1))) :
    Calls Tryz.prog 78 #[.agg #[.int .i64 k, .string t, .int .i64 l, .int .i64 c]] w fun e w' => e = .returned (.bool (!one k t T)) ∧ Below w.heap.size w w' := by
  obtain ⟨X, hX⟩ : ∃ X, X = !one k t T := ⟨_, rfl⟩
  rw [← hX]
  have HX := hide hX
  clear hX
  have ht' : ¬ (60000 : Int) < t.size := by omega
  have h0' : ((t.size : Int) == 0) = false := beq_eq_false_iff_ne.2 (by omega)
  have z7 : (k == 7) = false := by simpa using n3
  have z6 : (k == 6) = false := by simpa using n2
  have z11 : (k == 11) = false := by simpa using n1
  have b0 := below_alloc1 w (.cells #[.int .i64 k, .string t, .int .i64 l, .int .i64 c] 65)
  have P := B4.new w (.int .i64 k) (.string t) (.int .i64 l) (.int .i64 c) 65
  have H1 := hide (HL.out (w.alloc (.cells #[.int .i64 k, .string t, .int .i64 l, .int .i64 c] 65)))
  clear h0 n1 n2 n3 HL
  go_enter Tryz.func78, Tryz.ntmps78
  go_wp2_with fail
  refine H1.out.mono ?_
  rintro e w2 ⟨ao, cp, n, rfl, hTR, b2⟩
  have bx := below_alloc1 w2 (.cells #[.int .i64 q1, .int .i64 q2, .int .i64 q3, .slice ao n cp] 111)
  have hb := (b0.trans (b2.mono b0.size)).trans (bx.mono (Nat.le_trans b0.size b2.size))
  have Q := (P.keep (b2.block _ P.lt) b2.size).keep (bx.block _ (Nat.lt_of_lt_of_le P.lt b2.size)) bx.size
  have R := B4.new w2 (.int .i64 q1) (.int .i64 q2) (.int .i64 q3) (.slice ao n cp) 111
  have HN := hide hTR.1
  have hM := hTR.mine.next bx
  clear hTR H1 b2 P bx b0
  go_upto_region 15 with fail
  generalize w2.alloc (.cells #[.int .i64 q1, .int .i64 q2, .int .i64 q3, .slice ao n cp] 111) = v at *
  obtain ⟨y0, y1, y2, y3, yl⟩ := Q
  obtain ⟨r0, r1, r2, r3, rl⟩ := R
  have hn := HN.out
  clear HN
  by_cases hq1 : q1 = 0
  · subst hq1
    by_cases h1 : n = 1
    · subst h1
      obtain ⟨o, rfl⟩ : ∃ o, T = [o] := by
        match T, hn with
        | [o], _ => exact ⟨o, rfl⟩
      obtain ⟨g, rfl, hR, -⟩ := hM (by omega)
      obtain ⟨x0, x1, -, -⟩ := hR 0 (by omega)
      have x0' : v.cell? ⟨g, 0, none⟩ = some (.int .i64 o.kind) := x0
      have x1' : v.cell? ⟨g, 1, none⟩ = some (.string o.text) := x1
      clear x0 x1 hR hn hq
      have HO : Hid (one k t [o] = (((o.kind : Int) == k) && (o.text.toList == t.toList))) := rfl
      generalize one k t [o] = R at *
      generalize (o.kind : Int) = ok at *
      generalize o.text = ot at *
      by_cases z1 : ok = k
      · subst z1
        rcases z3 : (ot.toList == t.toList) with _ | _
        · have hR : Hid (X = true) := by unfold Hid; rw [HX.out, HO.out, z3]; simp
          clear HX HO
          go_wp2_with fail
          go_region
          all_goals
            go_wp2_with fail
            go_ret
            exact ⟨by rw [hR.out]; rfl, hb.drew⟩
        · have hR : Hid (X = false) := by unfold Hid; rw [HX.out, HO.out, z3]; simp
          clear HX HO
          go_wp2_with fail
          go_region
          all_goals
            go_wp2_with fail
            go_ret
            exact ⟨by rw [hR.out]; rfl, hb.drew⟩
      · have hR : Hid (X = true) := by unfold Hid; rw [HX.out, HO.out]; simp [z1]
        have z3 : (ok == k) = false := by simpa using z1
        have z4 : (ok != k) = true := by simpa using z1
        clear HX HO
        go_wp2_with fail
        go_region
        all_goals
          go_wp2_with fail
          go_ret
          exact ⟨by rw [hR.out]; rfl, hb.drew⟩
    · have h1' : ((n : Int) == 1) = false := by simp; omega
      have h1'' : ((n : Int) != 1) = true := by simp; omega
      have hR : one k t T = false := by
        match T, hn with
        | [], _ => rfl
        | [o], hn => exact absurd hn h1
        | _ :: _ :: _, _ => rfl
      have HR : Hid (X = true) := by unfold Hid; rw [HX.out, hR]; rfl
      clear hM hn h1 hR HX hq
      go_wp2_with fail
      go_region
      all_goals
        go_wp2_with fail
        go_ret
        exact ⟨by rw [HR.out]; rfl, hb.drew⟩
  · have h1' : ((q1 : Int) == 0) = false := by simp; omega
    have h1'' : ((q1 : Int) != 0) = true := by simp; omega
    have hR : one k t T = false := by rw [hq hq1]; rfl
    have HR : Hid (X = true) := by unfold Hid; rw [HX.out, hR]; rfl
    clear hM hn hR HX hq hq1
    go_wp2_with fail
    go_region
    all_goals
      go_wp2_with fail
      go_ret
      exact ⟨by rw [HR.out]; rfl, hb.drew⟩

theorem mFaultElse (k l c : Int) (t : ByteArray) (w : World) (ht : t.size ≤ 60000) (h0 : t.size ≠ 0) (n1 : k ≠ 11) (n2 : k ≠ 6) (n3 : k ≠ 7) :
    Calls Tryz.prog 78 #[.agg #[.int .i64 k, .string t, .int .i64 l, .int .i64 c]] w fun e w' => e = .returned (.bool (!one k t (lexA t).2.2.2)) ∧ Below w.heap.size w w' := by
  refine mFaultElseG (lexA t).1 (lexA t).2.1 (lexA t).2.2.1 _ (fun h => ?_) k l c t w ht h0 n1 n2 n3 (fun w1 => mLex t w1 (by omega))
  unfold lexA at h ⊢
  split
  · rfl
  · next h1 =>
    rw [if_neg h1] at h
    split
    · next h2 => rw [if_pos h2] at h; exact absurd rfl h
    · rfl

set_option maxHeartbeats 1000000 in
set_option maxRecDepth 100000 in
theorem mFault0 (k l c : Int) (t : ByteArray) (w : World) (h0 : t.size = 0) (n1 : k ≠ 11) (n2 : k ≠ 6) (n3 : k ≠ 7) :
    Calls Tryz.prog 78 #[.agg #[.int .i64 k, .string t, .int .i64 l, .int .i64 c]] w fun e w' => e = .returned (.bool true) ∧ Below w.heap.size w w' := by
  have ht' : ¬ (60000 : Int) < t.size := by omega
  have h0' : ((t.size : Int) == 0) = true := by rw [h0]; rfl
  have z7 : (k == 7) = false := by simpa using n3
  have z6 : (k == 6) = false := by simpa using n2
  have z11 : (k == 11) = false := by simpa using n1
  have b0 := below_alloc1 w (.cells #[.int .i64 k, .string t, .int .i64 l, .int .i64 c] 65)
  clear h0 n1 n2 n3
  go_enter Tryz.func78, Tryz.ntmps78
  go_wp2_with fail
  go_ret
  exact ⟨rfl, b0⟩

end Go.Proofs.YtjfoagmenehapaaGreatDoor

namespace Go.Proofs.YtjfoagmenehapaaGreatDoor
open Go.RowKit Go.Joins

theorem emp (t : ByteArray) : t.toList.isEmpty = decide (t.size = 0) := by
  rw [Lib.toList_data]
  rcases t with ⟨⟨L⟩⟩
  cases L <;> simp [ByteArray.size]
theorem emp_nil : (⟨#[]⟩ : ByteArray).toList.isEmpty = true := by rw [emp]; rfl

theorem escA_pos (m : UInt8) (t : ByteArray) : (escA m t).size ≠ 0 := by
  unfold escA escT
  simp [ByteArray.size]

theorem lexA_zero {t : ByteArray} (h : t.size = 0) : (lexA t).2.2.2 = [] := by
  have e : lexF t 0 = ([], 0, 0) := by have := lex_end (s := t); rw [h] at this; exact this
  unfold lexA
  rw [if_neg (by omega), e]
  rfl

theorem sp_long {k : Int} {t : ByteArray} (h : 60000 < t.size) : sp k t = ⟨#[]⟩ := by unfold sp; rw [if_pos h]
theorem sp_11 {t : ByteArray} (h : t.size ≤ 60000) : sp 11 t = if lay t = true then t else ⟨#[]⟩ := by unfold sp; rw [if_neg (by omega), if_pos rfl]
theorem sp_7 {t : ByteArray} (h : t.size ≤ 60000) : sp 7 t = if (okT t && decide ((escA 34 t).size ≤ 60000)) = true then escA 34 t else ⟨#[]⟩ := by
  unfold sp rd
  rw [if_neg (by omega), if_neg (by decide), if_neg (by decide), if_pos rfl, lexA_esc 34 (.inr rfl)]
  have ho : okQ 34 t = okT t := by unfold okQ; simp
  rw [ho]
  by_cases h1 : okT t = true ∧ (escA 34 t).size ≤ 60000
  · rw [if_pos h1, if_pos (by simp [one]), if_pos (by simp [h1.1, h1.2])]
  · rw [if_neg h1, if_neg (by simp [one]), if_neg (by simpa using h1)]
theorem sp_6 {t : ByteArray} (h : t.size ≤ 60000) : sp 6 t = if (okT t && t.size == 1) = true then escA 39 t else ⟨#[]⟩ := by
  unfold sp rd
  rw [if_neg (by omega), if_neg (by decide), if_pos rfl, lexA_esc 39 (.inl rfl)]
  have ho : okQ 39 t = (okT t && t.size == 1) := by unfold okQ; simp
  rw [ho]
  have hl := escA_len 39 t
  by_cases h1 : (okT t && t.size == 1) = true
  · have h2 : t.size = 1 := by simp at h1; exact h1.2
    have h3 : (okT t && t.size == 1) = true ∧ (escA 39 t).size ≤ 60000 := ⟨h1, by omega⟩
    rw [if_pos h3, if_pos (by simp [one]), if_pos h1]
  · have h3 : ¬ ((okT t && t.size == 1) = true ∧ (escA 39 t).size ≤ 60000) := fun x => h1 x.1
    rw [if_neg h3, if_neg (by simp [one]), if_neg h1]
theorem sp_else {k : Int} {t : ByteArray} (h : t.size ≤ 60000) (n1 : k ≠ 11) (n2 : k ≠ 6) (n3 : k ≠ 7) : sp k t = if one k t (lexA t).2.2.2 = true then t else ⟨#[]⟩ := by
  unfold sp rd
  rw [if_neg (by omega), if_neg n1, if_neg n2, if_neg n3]

theorem mFault (k l c : Int) (t : ByteArray) (w : World) : Calls Tryz.prog 78 #[.agg #[.int .i64 k, .string t, .int .i64 l, .int .i64 c]] w fun e w' => e = .returned (.bool (sp k t).toList.isEmpty) ∧ Below w.heap.size w w' := by
  by_cases h : t.size ≤ 60000
  · by_cases n3 : k = 7
    · subst n3
      have e : (sp 7 t).toList.isEmpty = !(okT t && decide ((escA 34 t).size ≤ 60000)) := by
        rw [sp_7 h]
        generalize (okT t && decide ((escA 34 t).size ≤ 60000)) = R
        cases R
        · exact emp_nil
        · rw [if_pos rfl, emp]; exact decide_eq_false (escA_pos _ t)
      rw [e]
      exact mFault7 l c t w h
    · by_cases n2 : k = 6
      · subst n2
        have e : (sp 6 t).toList.isEmpty = !(okT t && t.size == 1) := by
          rw [sp_6 h]
          generalize (okT t && t.size == 1) = R
          cases R
          · exact emp_nil
          · rw [if_pos rfl, emp]; exact decide_eq_false (escA_pos _ t)
        rw [e]
        exact mFault6 l c t w h
      · by_cases n1 : k = 11
        · subst n1
          have e : (sp 11 t).toList.isEmpty = !lay t := by
            rw [sp_11 h]
            rcases q : lay t with _ | _
            · exact emp_nil
            · rw [if_pos rfl]
              have hne : t.toList ≠ [] := fun e => by unfold lay at q; rw [e] at q; exact absurd q (by decide)
              cases ht : t.toList with
              | nil => exact absurd ht hne
              | cons a b => rfl
          rw [e]
          exact mFault11 l c t w h
        · by_cases h0 : t.size = 0
          · have e : (sp k t).toList.isEmpty = true := by
              rw [sp_else h n1 n2 n3]
              split
              · rw [emp]; simp [h0]
              · exact emp_nil
            rw [e]
            exact mFault0 k l c t w h0 n1 n2 n3
          · have e : (sp k t).toList.isEmpty = !one k t (lexA t).2.2.2 := by
              rw [sp_else h n1 n2 n3]
              generalize one k t (lexA t).2.2.2 = R
              cases R
              · exact emp_nil
              · rw [if_pos rfl, emp]; exact decide_eq_false h0
            rw [e]
            exact mFaultElse k l c t w h h0 n1 n2 n3
  · have e : (sp k t).toList.isEmpty = true := by rw [sp_long (by omega)]; exact emp_nil
    rw [e]
    exact mFaultLong k l c t w (by omega)

end Go.Proofs.YtjfoagmenehapaaGreatDoor

