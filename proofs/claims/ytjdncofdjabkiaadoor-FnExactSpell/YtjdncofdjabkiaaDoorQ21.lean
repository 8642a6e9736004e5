import Derived.Test.YtjdncofdjabkiaaDoorQ20
import Derived.Test.YtjdncofdjabkiaaDoorQ18
import Derived.Test.YtjdncofdjabkiaaDoorTie
import Derived.Test.YtjdncofdjabkiaaDoorCards
import Derived.ProofKit
import Derived.OpenShut
import Derived.ShutString
import Derived.ChangeOld
import Derived.LaidMore
import Derived.Lay
import Derived.Stop.Joined
import Derived.Stop.LaidErr
import Derived.SevenTiedAt
namespace Go.Proofs.YtjdncofdjabkiaaDoor
open Go.RowKit Go.Joins

theorem emp_eq {t : ByteArray} (h : t.toList.isEmpty = true) : t = ⟨#[]⟩ := by
  rw [Lib.toList_data] at h
  rcases t with ⟨⟨L⟩⟩
  cases L with
  | nil => rfl
  | cons a b => simp at h

theorem sp_own {k : Int} {t : ByteArray} (n2 : k ≠ 6) (n3 : k ≠ 7) : sp k t = if (sp k t).toList.isEmpty = true then ⟨#[]⟩ else t := by
  split
  · next h => exact emp_eq h
  · next h =>
    by_cases hl : 60000 < t.size
    · rw [sp_long hl] at h; exact absurd emp_nil h
    · by_cases n1 : k = 11
      · subst n1
        rw [sp_11 (by omega)] at h ⊢
        split
        · rfl
        · next h' => rw [if_neg h'] at h; exact absurd emp_nil h
      · rw [sp_else (by omega) n1 n2 n3] at h ⊢
        split
        · rfl
        · next h' => rw [if_neg h'] at h; exact absurd emp_nil h

set_option maxHeartbeats 1000000 in
set_option maxRecDepth 100000 in
theorem mSpell7 (l c : Int) (t : ByteArray) (w : World) (ht : t.size ≤ 1048576) :
    Calls Tryd.prog 16 #[.agg #[.int .i64 7, .string t, .int .i64 l, .int .i64 c]] w fun e w' => e = .returned (.string (sp 7 t)) ∧ Below w.heap.size w w' := by
  have b0 := below_alloc1 w (.cells #[.int .i64 7, .string t, .int .i64 l, .int .i64 c] 33)
  have HB : Hid (∀ wx, Calls Tryd.prog 29 #[.string t] wx fun e w' => e = .returned (.bool (okT t)) ∧ w' = wx) := fun wx => mBytes t wx (by omega)
  have HS : Hid (∀ wx, Calls Tryd.prog 30 #[.agg #[.int .i64 7, .string t, .int .i64 l, .int .i64 c]] wx fun e w' => e = .returned (.string (ms 7 t)) ∧ Below wx.heap.size wx w') := fun wx => mSpell 7 l c t wx (by omega)
  have hms : ms 7 t = escA 34 t := by unfold ms; rw [if_pos rfl]
  rw [hms] at HS
  clear hms
  have hel := escA_len 34 t
  obtain ⟨X, hX⟩ : ∃ X, X = sp 7 t := ⟨_, rfl⟩
  rw [← hX]
  rcases z1 : okT t with _ | _
  · have HX : Hid (X = ⟨#[]⟩) := by
      unfold Hid
      by_cases h : 60000 < t.size
      · rw [hX, sp_long h]
      · rw [hX, sp_7 (by omega), z1]; rfl
    rw [z1] at HB
    clear hX
    go_enter Tryd.func16, Tryd.ntmps16
    go_wp2_with fail
    refine (HB.out _).mono ?_
    rintro e w2 ⟨rfl, rfl⟩
    go_wp2_with fail
    go_ret
    exact ⟨by rw [HX.out]; rfl, b0⟩
  · rw [z1] at HB
    by_cases z0 : 60000 < t.size
    · have HX : Hid (X = ⟨#[]⟩) := by unfold Hid; rw [hX, sp_long z0]
      have z0' : (60000 : Int) < t.size := by omega
      clear hX z0
      go_enter Tryd.func16, Tryd.ntmps16
      go_wp2_with fail
      refine (HB.out _).mono ?_
      rintro e w2 ⟨rfl, rfl⟩
      go_wp2_with fail
      go_ret
      exact ⟨by rw [HX.out]; rfl, b0⟩
    · have z0' : ¬ (60000 : Int) < t.size := by omega
      rw [sp_7 (by omega), z1] at hX
      by_cases z2 : 60000 < (escA 34 t).size
      · have HX : Hid (X = ⟨#[]⟩) := by unfold Hid; rw [hX]; exact if_neg (by simp; omega)
        have z2' : (60000 : Int) < ((escA 34 t).size : Nat) := by omega
        clear hX z2 z0
        generalize escA 34 t = E at *
        go_enter Tryd.func16, Tryd.ntmps16
        go_wp2_with fail
        refine (HB.out _).mono ?_
        rintro e w2 ⟨rfl, rfl⟩
        go_wp2_with fail
        refine (HS.out _).mono ?_
        rintro e w3 ⟨rfl, b3⟩
        go_wp2_with fail
        go_ret
        exact ⟨by rw [HX.out]; rfl, b0.trans (b3.mono b0.size)⟩
      · have HX : Hid (X = escA 34 t) := by unfold Hid; rw [hX]; exact if_pos (by simp; omega)
        have z2' : ¬ (60000 : Int) < ((escA 34 t).size : Nat) := by omega
        have P := B4.new w (.int .i64 7) (.string t) (.int .i64 l) (.int .i64 c) 33
        clear hX z2 z0
        generalize escA 34 t = E at *
        go_enter Tryd.func16, Tryd.ntmps16
        go_wp2_with fail
        refine (HB.out _).mono ?_
        rintro e w2 ⟨rfl, rfl⟩
        go_wp2_with fail
        refine (HS.out _).mono ?_
        rintro e w3 ⟨rfl, b3⟩
        have hb3 := b0.trans (b3.mono b0.size)
        obtain ⟨y0, y1, y2, y3, yl⟩ := P.keep (b3.block _ P.lt) b3.size
        clear P
        go_wp2_with fail
        refine (HS.out _).mono ?_
        rintro e w4 ⟨rfl, b4⟩
        go_wp2_with fail
        go_ret
        exact ⟨by rw [HX.out]; rfl, hb3.trans (b4.mono hb3.size)⟩

set_option maxHeartbeats 1000000 in
set_option maxRecDepth 100000 in
theorem mSpell6 (l c : Int) (t : ByteArray) (w : World) (ht : t.size ≤ 1048576) :
    Calls Tryd.prog 16 #[.agg #[.int .i64 6, .string t, .int .i64 l, .int .i64 c]] w fun e w' => e = .returned (.string (sp 6 t)) ∧ Below w.heap.size w w' := by
  have b0 := below_alloc1 w (.cells #[.int .i64 6, .string t, .int .i64 l, .int .i64 c] 33)
  have HB : Hid (∀ wx, Calls Tryd.prog 29 #[.string t] wx fun e w' => e = .returned (.bool (okT t)) ∧ w' = wx) := fun wx => mBytes t wx (by omega)
  have HS : Hid (∀ wx, Calls Tryd.prog 30 #[.agg #[.int .i64 6, .string t, .int .i64 l, .int .i64 c]] wx fun e w' => e = .returned (.string (ms 6 t)) ∧ Below wx.heap.size wx w') := fun wx => mSpell 6 l c t wx (by omega)
  have hms : ms 6 t = escA 39 t := by unfold ms; rw [if_neg (by decide), if_pos rfl]
  rw [hms] at HS
  clear hms
  obtain ⟨X, hX⟩ : ∃ X, X = sp 6 t := ⟨_, rfl⟩
  rw [← hX]
  by_cases h1 : t.size = 1
  · have h1' : ((t.size : Int) != 1) = false := by rw [h1]; rfl
    rw [sp_6 (by omega), h1] at hX
    rcases z1 : okT t with _ | _
    · rw [z1] at hX HB
      have HX : Hid (X = ⟨#[]⟩) := hX
      clear hX h1
      go_enter Tryd.func16, Tryd.ntmps16
      go_wp2_with fail
      refine (HB.out _).mono ?_
      rintro e w2 ⟨rfl, rfl⟩
      go_wp2_with fail
      go_ret
      exact ⟨by rw [HX.out]; rfl, b0⟩
    · rw [z1] at hX HB
      have HX : Hid (X = escA 39 t) := hX
      clear hX h1
      generalize escA 39 t = E at *
      go_enter Tryd.func16, Tryd.ntmps16
      go_wp2_with fail
      refine (HB.out _).mono ?_
      rintro e w2 ⟨rfl, rfl⟩
      go_wp2_with fail
      refine (HS.out _).mono ?_
      rintro e w3 ⟨rfl, b3⟩
      go_wp2_with fail
      go_ret
      exact ⟨by rw [HX.out]; rfl, b0.trans (b3.mono b0.size)⟩
  · have h1' : ((t.size : Int) != 1) = true := by simp; omega
    have HX : Hid (X = ⟨#[]⟩) := by
      unfold Hid
      by_cases h : 60000 < t.size
      · rw [hX, sp_long h]
      · rw [hX, sp_6 (by omega), if_neg (by simp [h1])]
    clear hX h1
    go_enter Tryd.func16, Tryd.ntmps16
    go_wp2_with fail
    go_ret
    exact ⟨by rw [HX.out]; rfl, b0⟩

set_option maxHeartbeats 1000000 in
set_option maxRecDepth 100000 in
theorem mSpellElse (k l c : Int) (t : ByteArray) (w : World) (n2 : k ≠ 6) (n3 : k ≠ 7) :
    Calls Tryd.prog 16 #[.agg #[.int .i64 k, .string t, .int .i64 l, .int .i64 c]] w fun e w' => e = .returned (.string (sp k t)) ∧ Below w.heap.size w w' := by
  have b0 := below_alloc1 w (.cells #[.int .i64 k, .string t, .int .i64 l, .int .i64 c] 33)
  have P := B4.new w (.int .i64 k) (.string t) (.int .i64 l) (.int .i64 c) 33
  have HF : Hid (∀ wx, Calls Tryd.prog 13 #[.agg #[.int .i64 k, .string t, .int .i64 l, .int .i64 c]] wx fun e w' => e = .returned (.bool (sp k t).toList.isEmpty) ∧ Below wx.heap.size wx w') := fun wx => mFault k l c t wx
  obtain ⟨X, hX⟩ : ∃ X, X = sp k t := ⟨_, rfl⟩
  have hY := sp_own (t := t) n2 n3
  rw [← hX] at hY HF ⊢
  have z7 : (k == 7) = false := by simpa using n3
  have z6 : (k == 6) = false := by simpa using n2
  rcases z1 : X.toList.isEmpty with _ | _
  · rw [z1] at hY HF
    have HX : Hid (X = t) := hY
    clear hX hY z1 n2 n3
    go_enter Tryd.func16, Tryd.ntmps16
    go_wp2_with fail
    refine (HF.out _).mono ?_
    rintro e w2 ⟨rfl, b2⟩
    obtain ⟨y0, y1, y2, y3, yl⟩ := P.keep (b2.block _ P.lt) b2.size
    clear P
    go_wp2_with fail
    go_ret
    exact ⟨by rw [HX.out]; rfl, b0.trans (b2.mono b0.size)⟩
  · rw [z1] at hY HF
    have HX : Hid (X = ⟨#[]⟩) := hY
    clear hX hY z1 n2 n3 P
    go_enter Tryd.func16, Tryd.ntmps16
    go_wp2_with fail
    refine (HF.out _).mono ?_
    rintro e w2 ⟨rfl, b2⟩
    go_wp2_with fail
    go_ret
    exact ⟨by rw [HX.out]; rfl, b0.trans (b2.mono b0.size)⟩

theorem mSpellW (k l c : Int) (t : ByteArray) (w : World) (ht : t.size ≤ 1048576) :
    Calls Tryd.prog 16 #[.agg #[.int .i64 k, .string t, .int .i64 l, .int .i64 c]] w fun e w' => e = .returned (.string (sp k t)) ∧ Below w.heap.size w w' := by
  by_cases n3 : k = 7
  · subst n3; exact mSpell7 l c t w ht
  · by_cases n2 : k = 6
    · subst n2; exact mSpell6 l c t w ht
    · exact mSpellElse k l c t w n2 n3

end Go.Proofs.YtjdncofdjabkiaaDoor

namespace Go.Proofs.YtjdncofdjabkiaaDoor
open Go.RowKit Go.Joins

set_option maxHeartbeats 1000000 in
set_option maxRecDepth 100000 in
theorem szTok (k l c left : Int) (t : ByteArray) (w : World) (h0 : 0 ≤ left) (h1 : left ≤ 1048576) (hm : t.size ≤ maxLen) :
    Calls Tryd.prog 12 #[.agg #[.int .i64 k, .string t, .int .i64 l, .int .i64 c], .int .i64 left] w fun e w' => e = .returned (.int .i64 (if left < t.size then -1 else left - t.size)) ∧ Below w.heap.size w w' := by
  have hmx : t.size ≤ 9223372036854775807 := by simp only [maxLen] at hm; omega
  have b0 := below_alloc1 w (.cells #[.int .i64 k, .string t, .int .i64 l, .int .i64 c] 30)
  by_cases h : left < t.size
  · rw [if_pos h]
    have h' : left - t.size < 0 := by omega
    go_enter Tryd.func12, Tryd.ntmps12
    go_wp2_with fail
    go_ret
    exact ⟨rfl, b0⟩
  · rw [if_neg h]
    have h' : ¬ left - t.size < 0 := by omega
    go_enter Tryd.func12, Tryd.ntmps12
    go_wp2_with fail
    go_ret
    exact ⟨rfl, b0⟩

set_option maxHeartbeats 1000000 in
set_option maxRecDepth 100000 in
theorem toTok (k l c : Int) (t : ByteArray) (w : World) :
    Calls Tryd.prog 14 #[.agg #[.int .i64 k, .string t, .int .i64 l, .int .i64 c]] w fun e w' => e = .returned (.agg #[.int .i64 k, .string t, .int .i64 l, .int .i64 c]) ∧ Below w.heap.size w w' := by
  go_enter Tryd.func14, Tryd.ntmps14
  go_wp2_with fail
  refine bodyPost_ret (v := .agg #[.int .i64 k, .string t, .int .i64 l, .int .i64 c]) (by simp [results, Tryd.results14, go_sem]) rfl ?_
  refine ⟨rfl, ?_⟩
  exact (((Below.refl _ _).alloc (Nat.le_refl _) _).alloc (by simp) _).alloc (by simp; omega) _

end Go.Proofs.YtjdncofdjabkiaaDoor

namespace Go.Proofs.YtjdncofdjabkiaaDoor
open Go.RowKit Go.Joins

set_option maxHeartbeats 1000000 in
set_option maxRecDepth 100000 in
theorem lawFault (k l c : Int) (t : ByteArray) (w : World) (ht : TabB w.heap.size w) (hm : t.size ≤ maxLen) :
    Calls Tryd.prog 4 #[.agg #[.int .i64 k, .string t, .int .i64 l, .int .i64 c]] w fun e w' => e = .returned (.bool true) ∧ Below w.heap.size w w' := by
  have b0 := below_alloc1 w (.cells #[.int .i64 k, .string t, .int .i64 l, .int .i64 c] 30)
  have P := B4.new w (.int .i64 k) (.string t) (.int .i64 l) (.int .i64 c) 30
  have HZ : Hid (∀ wx, Calls Tryd.prog 12 #[.agg #[.int .i64 k, .string t, .int .i64 l, .int .i64 c], .int .i64 1048576] wx fun e w' => e = .returned (.int .i64 (if 1048576 < (t.size : Int) then -1 else 1048576 - t.size)) ∧ Below wx.heap.size wx w') := fun wx => szTok k l c 1048576 t wx (by omega) (by omega) hm
  have HC : Hid (∀ wx, Calls Tryd.prog 14 #[.agg #[.int .i64 k, .string t, .int .i64 l, .int .i64 c]] wx fun e w' => e = .returned (.agg #[.int .i64 k, .string t, .int .i64 l, .int .i64 c]) ∧ Below wx.heap.size wx w') := fun wx => toTok k l c t wx
  have HF : Hid (∀ wx, Calls Tryd.prog 13 #[.agg #[.int .i64 k, .string t, .int .i64 l, .int .i64 c]] wx fun e w' => e = .returned (.bool (sp k t).toList.isEmpty) ∧ Below wx.heap.size wx w') := fun wx => mFault k l c t wx
  have HI : Hid (∀ wx, Below w.heap.size w wx → Calls Tryd.prog 15 #[.agg #[.int .i64 k, .string t, .int .i64 l, .int .i64 c]] wx fun e w' => e = .returned (.bool (sp k t).toList.isEmpty) ∧ Below wx.heap.size wx w') := fun wx hb => iFault k l c t wx (ht.up hb hb.size)
  clear ht
  generalize (sp k t).toList.isEmpty = X at *
  by_cases h : 1048576 < (t.size : Int)
  · rw [if_pos h] at HZ
    go_enter Tryd.func4, Tryd.ntmps4
    go_wp2_with fail
    refine (HZ.out _).mono ?_
    rintro e w1 ⟨rfl, b1⟩
    go_wp2_with fail
    go_ret
    exact ⟨rfl, b0.trans (b1.mono b0.size)⟩
  · rw [if_neg h] at HZ
    obtain ⟨Z, hZ⟩ : ∃ Z : Int, Z = 1048576 - t.size := ⟨_, rfl⟩
    rw [← hZ] at HZ
    have hZ0 : ¬ Z < 0 := by omega
    clear hZ h hm
    go_enter Tryd.func4, Tryd.ntmps4
    go_wp2_with fail
    refine (HZ.out _).mono ?_
    rintro e w1 ⟨rfl, b1⟩
    have h1 := b0.trans (b1.mono b0.size)
    have P1 := P.keep (b1.block _ P.lt) b1.size
    clear P b1 b0 HZ
    obtain ⟨y0, y1, y2, y3, yl⟩ := id P1
    go_wp2_with fail
    refine (HC.out _).mono ?_
    rintro e w2 ⟨rfl, b2⟩
    have h2 := h1.trans (b2.mono h1.size)
    have P2 := P1.keep (b2.block _ P1.lt) b2.size
    clear P1 b2 h1 y0 y1 y2 y3 yl
    go_wp2_with fail
    refine (HF.out _).mono ?_
    rintro e w3 ⟨rfl, b3⟩
    have h3 := h2.trans (b3.mono h2.size)
    have P3 := P2.keep (b3.block _ P2.lt) b3.size
    clear P2 b3 h2
    obtain ⟨y0, y1, y2, y3, yl⟩ := id P3
    go_wp2_with fail
    refine (HC.out _).mono ?_
    rintro e w4 ⟨rfl, b4⟩
    have h4 := h3.trans (b4.mono h3.size)
    clear P3 b4 h3 y0 y1 y2 y3 yl
    go_wp2_with fail
    refine (HI.out _ h4).mono ?_
    rintro e w5 ⟨rfl, b5⟩
    have h5 := h4.trans (b5.mono h4.size)
    clear b5 h4
    go_wp2_with fail
    go_ret
    exact ⟨rfl, h5⟩

set_option maxHeartbeats 1000000 in
set_option maxRecDepth 100000 in
theorem lawSpell (k l c : Int) (t : ByteArray) (w : World) (ht : TabB w.heap.size w) (hm : t.size ≤ maxLen) :
    Calls Tryd.prog 5 #[.agg #[.int .i64 k, .string t, .int .i64 l, .int .i64 c]] w fun e w' => e = .returned (.bool true) ∧ Below w.heap.size w w' := by
  have b0 := below_alloc1 w (.cells #[.int .i64 k, .string t, .int .i64 l, .int .i64 c] 30)
  have P := B4.new w (.int .i64 k) (.string t) (.int .i64 l) (.int .i64 c) 30
  have HZ : Hid (∀ wx, Calls Tryd.prog 12 #[.agg #[.int .i64 k, .string t, .int .i64 l, .int .i64 c], .int .i64 1048576] wx fun e w' => e = .returned (.int .i64 (if 1048576 < (t.size : Int) then -1 else 1048576 - t.size)) ∧ Below wx.heap.size wx w') := fun wx => szTok k l c 1048576 t wx (by omega) (by omega) hm
  have HC : Hid (∀ wx, Calls Tryd.prog 14 #[.agg #[.int .i64 k, .string t, .int .i64 l, .int .i64 c]] wx fun e w' => e = .returned (.agg #[.int .i64 k, .string t, .int .i64 l, .int .i64 c]) ∧ Below wx.heap.size wx w') := fun wx => toTok k l c t wx
  have HF : Hid (∀ wx, t.size ≤ 1048576 → Calls Tryd.prog 16 #[.agg #[.int .i64 k, .string t, .int .i64 l, .int .i64 c]] wx fun e w' => e = .returned (.string (sp k t)) ∧ Below wx.heap.size wx w') := fun wx h => mSpellW k l c t wx h
  have HI : Hid (∀ wx, Below w.heap.size w wx → Calls Tryd.prog 17 #[.agg #[.int .i64 k, .string t, .int .i64 l, .int .i64 c]] wx fun e w' => e = .returned (.string (sp k t)) ∧ Below wx.heap.size wx w') := fun wx hb => iSpell k l c t wx (ht.up hb hb.size)
  clear ht
  generalize sp k t = X at *
  by_cases h : 1048576 < (t.size : Int)
  · rw [if_pos h] at HZ
    go_enter Tryd.func5, Tryd.ntmps5
    go_wp2_with fail
    refine (HZ.out _).mono ?_
    rintro e w1 ⟨rfl, b1⟩
    go_wp2_with fail
    go_ret
    exact ⟨rfl, b0.trans (b1.mono b0.size)⟩
  · rw [if_neg h] at HZ
    obtain ⟨Z, hZ⟩ : ∃ Z : Int, Z = 1048576 - t.size := ⟨_, rfl⟩
    rw [← hZ] at HZ
    have hZ0 : ¬ Z < 0 := by omega
    have HF' := hide (fun wx => HF.out wx (by omega))
    clear hZ h hm HF
    go_enter Tryd.func5, Tryd.ntmps5
    go_wp2_with fail
    refine (HZ.out _).mono ?_
    rintro e w1 ⟨rfl, b1⟩
    have h1 := b0.trans (b1.mono b0.size)
    have P1 := P.keep (b1.block _ P.lt) b1.size
    clear P b1 b0 HZ
    obtain ⟨y0, y1, y2, y3, yl⟩ := id P1
    go_wp2_with fail
    refine (HC.out _).mono ?_
    rintro e w2 ⟨rfl, b2⟩
    have h2 := h1.trans (b2.mono h1.size)
    have P2 := P1.keep (b2.block _ P1.lt) b2.size
    clear P1 b2 h1 y0 y1 y2 y3 yl
    go_wp2_with fail
    refine (HF'.out _).mono ?_
    rintro e w3 ⟨rfl, b3⟩
    have h3 := h2.trans (b3.mono h2.size)
    have P3 := P2.keep (b3.block _ P2.lt) b3.size
    clear P2 b3 h2
    obtain ⟨y0, y1, y2, y3, yl⟩ := id P3
    go_wp2_with fail
    refine (HC.out _).mono ?_
    rintro e w4 ⟨rfl, b4⟩
    have h4 := h3.trans (b4.mono h3.size)
    clear P3 b4 h3 y0 y1 y2 y3 yl
    go_wp2_with fail
    refine (HI.out _ h4).mono ?_
    rintro e w5 ⟨rfl, b5⟩
    have h5 := h4.trans (b5.mono h4.size)
    clear b5 h4
    go_wp2_with fail
    go_ret
    exact ⟨rfl, h5⟩

end Go.Proofs.YtjdncofdjabkiaaDoor

namespace Go.Proofs.YtjdncofdjabkiaaDoor
open Go.ChangeShapes Go.WideShapes Go.ChangeAt Go.RowKit Go.Joins

theorem Tryd.own : ownKnob Tryd.prog.godebug = none := by kernel_rfl
theorem Tryd.laidOut : laidOutB Tryd.prog = true := by kernel_rfl
theorem gSp : Tryd.prog.globalNamed "strings.asciiSpace" = some 0 := by kernel_rfl
theorem tSp : (Tryd.prog.globals[0]?).map (·.type) = some 95 := by kernel_rfl
theorem cells95 : Tryd.prog.cellsOf 95 = 256 := by kernel_rfl
theorem cells5 : Tryd.prog.cellsOf 5 = 1 := by kernel_rfl
theorem cells30 : Tryd.prog.cellsOf 30 = 4 := by kernel_rfl
theorem cells9 : Tryd.prog.cellsOf 9 = 1 := by kernel_rfl
theorem cells2 : Tryd.prog.cellsOf 2 = 1 := by kernel_rfl

set_option maxRecDepth 100000 in
theorem tok_cells {H : Type} {enc : TypeId × Value → H} {W : World} (m : Nat) (cs : List Value) (x : DataW H × List MemPlace)
    (h : DataW.trod enc Tryd.prog W 0 (fun _ => true) true m 30 cs = some x) :
    ∃ (k : Int) (t : ByteArray) (l c : Int), cs = [.int .i64 k, .string t, .int .i64 l, .int .i64 c] ∧ t.size ≤ maxLen := by
  obtain ⟨xs, n, hm, rfl, hl, hlen, hf⟩ := DataW.trod_struct Tryd.underlying30 h
  rw [cells30] at hl
  match cs, hl with
  | [c0, c1, c2, c3], _ =>
    have f0 : DataW.trod enc Tryd.prog W 0 (fun _ => true) true n 2 [c0] = xs[0]? := by
      have := hf 0 { name := "Kind", type := 2, offset := 0, embedded := false, tag := "", pkgPath := "", byteOffset := 0 } rfl
      simpa [cells2] using this
    have f1 : DataW.trod enc Tryd.prog W 0 (fun _ => true) true n 9 [c1] = xs[1]? := by
      have := hf 1 { name := "Text", type := 9, offset := 1, embedded := false, tag := "", pkgPath := "", byteOffset := 8 } rfl
      simpa [cells9] using this
    have f2 : DataW.trod enc Tryd.prog W 0 (fun _ => true) true n 2 [c2] = xs[2]? := by
      have := hf 2 { name := "Line", type := 2, offset := 2, embedded := false, tag := "", pkgPath := "", byteOffset := 24 } rfl
      simpa [cells2] using this
    have f3 : DataW.trod enc Tryd.prog W 0 (fun _ => true) true n 2 [c3] = xs[3]? := by
      have := hf 3 { name := "Col", type := 2, offset := 3, embedded := false, tag := "", pkgPath := "", byteOffset := 32 } rfl
      simpa [cells2] using this
    match xs, hlen with
    | [y0, y1, y2, y3], _ =>
      simp only [List.getElem?_cons_zero, List.getElem?_cons_succ] at f0 f1 f2 f3
      obtain ⟨k, e0, -, hk⟩ := DataW.trod_int Tryd.underlying2 f0
      obtain ⟨nm, e1, -, hn⟩ := DataW.trod_string Tryd.underlying9 f1
      obtain ⟨l, e2, -, -⟩ := DataW.trod_int Tryd.underlying2 f2
      obtain ⟨c, e3, -, -⟩ := DataW.trod_int Tryd.underlying2 f3
      simp only [List.cons.injEq, and_true] at e0 e1 e2 e3
      subst e0 e1 e2 e3
      exact ⟨k, nm, l, c, rfl, hn⟩

set_option maxRecDepth 100000 in
theorem open_tok {H : Type} {enc : TypeId × Value → H} {W : World} {r : Reach} {base : Nat} {v : Value} {d : DataW H} {p : List MemPlace}
    (hv : Value.okWide Tryd.prog W r base 30 v) (h : DataW.Trod enc Tryd.prog W 0 (fun _ => true) true 30 v d p) :
    ∃ (k : Int) (t : ByteArray) (l c : Int), v = .agg #[.int .i64 k, .string t, .int .i64 l, .int .i64 c] ∧ t.size ≤ maxLen := by
  obtain ⟨cs, rfl, hsz⟩ := okWide_struct Tryd.underlying30 hv
  obtain ⟨fuel, hf⟩ := h
  obtain ⟨k, t, l, c, e, h1⟩ := tok_cells fuel _ _ hf
  refine ⟨k, t, l, c, ?_, h1⟩
  simp only [Value.cells] at e
  congr 1
  apply Array.ext'
  exact e

end Go.Proofs.YtjdncofdjabkiaaDoor

namespace Go.Proofs.YtjdncofdjabkiaaDoor
open Go.RowKit Go.Joins

/-- One more token behind what is written. -/
def joinS (acc : List UInt8) (x : ByteArray) : List UInt8 := if x.toList.isEmpty = true then acc else (if acc.length = 0 then acc else acc ++ [32]) ++ x.data.toList
/-- The first tokens written. -/
def saF (f : Nat → Tq) : Nat → List UInt8
  | 0 => []
  | i + 1 => joinS (saF f i) (sp (f i).k (f i).t)
def totF (f : Nat → Tq) : Nat → Nat
  | 0 => 0
  | i + 1 => totF f i + (f i).t.size

theorem totF_mono (f : Nat → Tq) {i j : Nat} (h : i ≤ j) : totF f i ≤ totF f j := by
  induction h with
  | refl => exact Nat.le_refl _
  | step _ ih => exact Nat.le_trans ih (Nat.le_add_right _ _)
theorem totF_at (f : Nat → Tq) {i n : Nat} (h : i < n) : (f i).t.size ≤ totF f n := Nat.le_trans (Nat.le_add_left _ _) (totF_mono f (Nat.succ_le_of_lt h))

theorem sp_len (k : Int) (t : ByteArray) : (sp k t).size ≤ 2 * t.size + 2 := by
  have e0 : (⟨#[]⟩ : ByteArray).size = 0 := rfl
  by_cases h : 60000 < t.size
  · rw [sp_long h, e0]; omega
  · by_cases n3 : k = 7
    · subst n3
      rw [sp_7 (by omega)]
      have := escA_len 34 t
      split <;> omega
    · by_cases n2 : k = 6
      · subst n2
        rw [sp_6 (by omega)]
        have := escA_len 39 t
        split <;> omega
      · rw [sp_own n2 n3]
        split <;> omega

theorem joinS_len (acc : List UInt8) (x : ByteArray) : (joinS acc x).length ≤ acc.length + x.size + 1 := by
  have : x.data.toList.length = x.size := Array.length_toList
  unfold joinS
  split
  · omega
  · split <;> simp <;> omega
theorem saF_len (f : Nat → Tq) : ∀ i, (saF f i).length ≤ 2 * totF f i + 3 * i
  | 0 => Nat.le_refl _
  | i + 1 => by
    have h1 := saF_len f i
    have h2 := joinS_len (saF f i) (sp (f i).k (f i).t)
    have h3 := sp_len (f i).k (f i).t
    show (joinS (saF f i) (sp (f i).k (f i).t)).length ≤ 2 * (totF f i + (f i).t.size) + 3 * (i + 1)
    omega

theorem BR.next {B : Nat} {W W' : World} {ao : Option Addr} {cap n : Nat} {l : List UInt8} (h : BR B W ao cap n l) (k : Below W.heap.size W W') : BR B W' ao cap n l := by
  refine ⟨h.1, h.2.1, ?_⟩
  rcases h.2.2 with h' | ⟨g, cap', cur, fz, e, hg, hb, r⟩
  · exact .inl h'
  · exact .inr ⟨g, cap', cur, fz, e, hg, (k.block g (Array.getElem?_eq_some_iff.1 hb).1).trans hb, r⟩

theorem bytes_own (x : ByteArray) : (⟨x.data.toList.toArray⟩ : ByteArray) = x := by
  rcases x with ⟨⟨L⟩⟩
  rfl

theorem neg_bool {b : Bool} (h : ¬ b = true) : b = false := by cases b <;> simp_all

set_option maxHeartbeats 2000000 in
set_option maxRecDepth 100000 in
theorem mAll (ao : Option Addr) (n cp : Nat) (f : Nat → Tq) (w : World) (hn : totF f n + n ≤ 1048576) (h : Toks w ao n f) :
    Calls Tryd.prog 19 #[.slice ao n cp] w fun e w' => e = .returned (.string ⟨(saF f n).toArray⟩) ∧ Below w.heap.size w w' := by
  have H := hide h
  clear h
  go_enter Tryd.func19, Tryd.ntmps19
  go_wp2_with fail
  go_loopw [3, 4] (fun s3 s4 wr => ∃ (i m cx : Nat) (ax : Option Addr), s3 = .slice ax m cx ∧ s4 = .int .i64 i ∧ i ≤ n ∧ Hid (BR w.heap.size wr ax cx m (saF f i)) ∧ Below w.heap.size w wr) (fun _ s4 _ => n - (intOf s4).toNat)
  case atStart => exact ⟨0, 0, 0, _, rfl, rfl, Nat.zero_le _, BR.empty w, below_alloc1 _ _⟩
  case round =>
    obtain ⟨i, m, cx, ax, rfl, rfl, hi, HR, hb⟩ := hrel
    have hzw := hb.size
    by_cases hlt : i < n
    · have hlt' : (i : Int) < n := by omega
      have hln := saF_len f i
      have htm := totF_mono f (Nat.le_of_lt hlt)
      have htt : totF f (i + 1) ≤ totF f n := totF_mono f hlt
      have hts : totF f (i + 1) = totF f i + (f i).t.size := rfl
      have hsl := sp_len (f i).k (f i).t
      obtain ⟨g, rfl, hRow, hg⟩ := H.out (by omega)
      have HRow := hide hRow
      obtain ⟨x0, x1, x2, x3⟩ := hRow.keep (hb.block g hg) i hlt
      obtain ⟨X, hX⟩ : ∃ X, X = sp (f i).k (f i).t := ⟨_, rfl⟩
      have HJ : Hid (saF f (i + 1) = joinS (saF f i) X) := by unfold Hid; rw [hX]; rfl
      have HF : Hid (∀ wx, Calls Tryd.prog 13 #[.agg #[.int .i64 (f i).k, .string (f i).t, .int .i64 (f i).l, .int .i64 (f i).c]] wx fun e w' => e = .returned (.bool X.toList.isEmpty) ∧ Below wx.heap.size wx w') := fun wx => by rw [hX]; exact mFault _ _ _ _ wx
      have HS : Hid (∀ wx, Calls Tryd.prog 16 #[.agg #[.int .i64 (f i).k, .string (f i).t, .int .i64 (f i).l, .int .i64 (f i).c]] wx fun e w' => e = .returned (.string X) ∧ Below wx.heap.size wx w') := fun wx => by rw [hX]; exact mSpellW _ _ _ _ wx (by omega)
      rw [← hX] at hsl
      have hm : m = (saF f i).length := HR.out.1
      have HM := hide hm
      have hxl : X.data.toList.length = X.size := Array.length_toList
      have hms : m + 1 + X.size ≤ 70368744177664 := by omega
      clear hRow hX hln htm htt hts hsl hm
      rcases z1 : X.toList.isEmpty with _ | _
      · rw [z1] at HF
        by_cases h0 : m = 0
        · have HJ2 : Hid (saF f (i + 1) = saF f i ++ X.data.toList) := by
            unfold Hid; rw [HJ.out]; unfold joinS; rw [z1, if_neg (by decide), if_pos (by rw [← HM.out]; exact h0)]
          have HN0 : Hid ((saF f i).length + X.data.toList.length ≤ 70368744177664) := by unfold Hid; rw [← HM.out, hxl]; omega
          clear HM z1 HJ
          subst h0
          go_wp2_with fail
          refine (HF.out _).mono ?_
          rintro e w2 ⟨rfl, b2⟩
          have hb2 := hb.trans (b2.mono hzw)
          have HR2 := hide (HR.out.next b2)
          obtain ⟨y0, y1, y2, y3⟩ := HRow.out.keep (hb2.block g hg) i hlt
          clear x0 x1 x2 x3 HR
          go_wp2_with fail
          refine (HS.out _).mono ?_
          rintro e w3 ⟨rfl, b3⟩
          have hb3 := hb2.trans (b3.mono hb2.size)
          have HR3 := hide (HR2.out.next b3)
          have hz3 := hb3.size
          clear y0 y1 y2 y3 HR2
          go_wp2_with (at_builtin; refine push_str rfl (.tmp 23) (.tmp 28) rfl w.heap.size _ ax cx 0 (saF f i) X.data.toList rfl (congrArg Value.string (bytes_own X).symm) hz3 HR3.out HN0.out ?_; intro ao6 cp6 n6 W6 hR6 bb6)
          go_roundw
          case rel => exact ⟨i + 1, n6, cp6, ao6, rfl, by go_num, by omega, by unfold Hid; rw [HJ2.out]; exact hR6, hb3.trans bb6.1⟩
          case measure => simp [intOf]; omega
        · have HJ2 : Hid (saF f (i + 1) = saF f i ++ [32] ++ X.data.toList) := by
            unfold Hid; rw [HJ.out]; unfold joinS; rw [z1, if_neg (by decide), if_neg (by rw [← HM.out]; exact h0)]
          have h0' : (0 : Int) < m := by omega
          clear z1 HJ
          go_wp2_with fail
          refine (HF.out _).mono ?_
          rintro e w2 ⟨rfl, b2⟩
          have hb2 := hb.trans (b2.mono hzw)
          have HR2 := hide (HR.out.next b2)
          have hz2 := hb2.size
          clear x0 x1 x2 x3 HR
          go_wp2_with (at_builtin; refine push_step rfl _ _ rfl w.heap.size _ ax cx m (saF f i) [32] 1 rfl ⟨w2.heap.size, 0, none⟩ rfl rfl (by simp; omega) (HR2.out.alloc _) (new_bytes w2 [32] _ 5 rfl) (by rw [← HM.out]; simp; omega) ?_; intro ao6 cp6 n6 W6 hR6 bb6; replace bb6 := ((BK.refl w.heap.size w2).alloc hz2 _).trans bb6; have hb6 := hb2.trans bb6.1; obtain ⟨y0, y1, y2, y3⟩ := HRow.out.keep (hb6.block g hg) i hlt)
          refine (HS.out _).mono ?_
          rintro e w3 ⟨rfl, b3⟩
          have hb3 := hb6.trans (b3.mono hb6.size)
          have HR3 := hide (hR6.next b3)
          have hz3 := hb3.size
          have hn6 : n6 = m + 1 := by rw [hR6.1, HM.out]; simp
          have HN6 : Hid ((saF f i ++ [32]).length + X.data.toList.length ≤ 70368744177664) := by unfold Hid; rw [← hR6.1, hxl]; omega
          clear y0 y1 y2 y3 HR2 hn6 hR6
          go_wp2_with (at_builtin; refine push_str rfl (.tmp 23) (.tmp 28) rfl w.heap.size _ ao6 cp6 n6 (saF f i ++ [32]) X.data.toList rfl (congrArg Value.string (bytes_own X).symm) hz3 HR3.out HN6.out ?_; intro ao7 cp7 n7 W7 hR7 bb7)
          go_roundw
          case rel => exact ⟨i + 1, n7, cp7, ao7, rfl, by go_num, by omega, by unfold Hid; rw [HJ2.out]; exact hR7, hb3.trans bb7.1⟩
          case measure => simp [intOf]; omega
      · rw [z1] at HF
        have HJ2 : Hid (saF f (i + 1) = saF f i) := by
          unfold Hid; rw [HJ.out]; unfold joinS; rw [if_pos z1]
        clear z1 HJ
        go_wp2_with fail
        refine (HF.out _).mono ?_
        rintro e w2 ⟨rfl, b2⟩
        have hb2 := hb.trans (b2.mono hzw)
        have HR2 := hide (HR.out.next b2)
        go_wp2_with fail
        go_roundw
        case rel => exact ⟨i + 1, m, cx, ax, rfl, by go_num, by omega, by unfold Hid; rw [HJ2.out]; exact HR2.out, hb2⟩
        case measure => simp [intOf]; omega
    · have hlt' : ¬ (i : Int) < n := by omega
      obtain rfl : i = n := by omega
      have hcv := HR.out.text
      go_wp2_with fail
      go_ret
      exact ⟨rfl, hb⟩

end Go.Proofs.YtjdncofdjabkiaaDoor

