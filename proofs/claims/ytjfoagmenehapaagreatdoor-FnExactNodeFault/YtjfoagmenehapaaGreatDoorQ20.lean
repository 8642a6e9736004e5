import Derived.Test.YtjfoagmenehapaaGreatDoorQ19
import Derived.Test.YtjfoagmenehapaaGreatDoorQ04
import Derived.Deep.Cut
namespace Go.Proofs.YtjfoagmenehapaaGreatDoor
open Go.RowKit Go.Joins

/-- Whether a text is that of a token of the kind without fault. -/
def tx (k : Int) (t : ByteArray) : Bool := !(sp k t).toList.isEmpty
def vr (t : ByteArray) : Bool := tx 1 t || (tx 3 t || (t.toList == [33] || t.toList == [126]))
def cn (t : ByteArray) : Bool := tx 2 t || tx 4 t

set_option maxHeartbeats 1000000 in
set_option maxRecDepth 100000 in
theorem iText (mb : Nat) (k : Int) (t : ByteArray) (w : World) (hm : mb < w.heap.size) (hK : KM w mb) :
    Calls Tryz.prog 22 #[.agg #[.map (some mb)], .string t, .int .i64 k] w fun e w' => e = .returned (.bool (tx k t)) ∧ Below w.heap.size w w' := by
  have b0 := below_alloc1 w (.cells #[.map (some mb)] 42)
  have HS := hide (iWith mb k 0 0 t (w.alloc (.cells #[.map (some mb)] 42)) (Nat.lt_of_lt_of_le hm b0.size) (hK.below b0 hm))
  clear hK
  unfold tx
  generalize sp k t = X at *
  rcases z : X.toList.isEmpty with _ | _
  all_goals
    go_enter Tryz.func22, Tryz.ntmps22
    go_wp2_with fail
    refine HS.out.mono ?_
    rintro e w2 ⟨rfl, b2⟩
    go_wp2_with fail
    go_ret
    exact ⟨rfl, b0.trans (b2.mono b0.size)⟩

set_option maxHeartbeats 1000000 in
set_option maxRecDepth 100000 in
theorem mText (k : Int) (t : ByteArray) (w : World) :
    Calls Tryz.prog 49 #[.int .i64 k, .string t] w fun e w' => e = .returned (.bool (tx k t)) ∧ Below w.heap.size w w' := by
  have HS := hide (mFault k 0 0 t w)
  unfold tx
  generalize (sp k t).toList.isEmpty = X at *
  go_enter Tryz.func49, Tryz.ntmps49
  go_wp2_with fail
  refine HS.out.mono ?_
  rintro e w2 ⟨rfl, b2⟩
  go_wp2_with fail
  go_ret
  exact ⟨rfl, b2⟩

set_option maxHeartbeats 1000000 in
set_option maxRecDepth 100000 in
theorem iVar (mb : Nat) (t : ByteArray) (w : World) (hm : mb < w.heap.size) (hK : KM w mb) :
    Calls Tryz.prog 23 #[.agg #[.map (some mb)], .string t] w fun e w' => e = .returned (.bool (vr t)) ∧ Below w.heap.size w w' := by
  have b0 := below_alloc1 w (.cells #[.map (some mb)] 42)
  have P : (w.alloc (.cells #[.map (some mb)] 42)).cell? ⟨w.heap.size, 0, none⟩ = some (.map (some mb)) := by simp
  have hl : w.heap.size < (w.alloc (.cells #[.map (some mb)] 42)).heap.size := by simp
  have HT : Hid (∀ k wx, Below w.heap.size w wx → Calls Tryz.prog 22 #[.agg #[.map (some mb)], .string t, .int .i64 k] wx fun e w' => e = .returned (.bool (tx k t)) ∧ Below wx.heap.size wx w') := fun k wx hb => iText mb k t wx (Nat.lt_of_lt_of_le hm hb.size) (hK.below hb hm)
  obtain ⟨X, hX⟩ : ∃ X, X = vr t := ⟨_, rfl⟩
  rw [← hX]
  unfold vr at hX
  clear hm hK
  rcases z0 : tx 1 t with _ | _
  · skip
    rcases z1 : tx 3 t with _ | _
    · skip
      rcases z2 : (t.toList == [33]) with _ | _
      · skip
        rcases z3 : (t.toList == [126]) with _ | _
        · skip
          rw [z0, z1, z2, z3] at hX
          have HX : Hid (X = false) := hX
          have T0 := hide (fun wx hb => HT.out 1 wx hb)
          have T1 := hide (fun wx hb => HT.out 3 wx hb)
          clear hX HT
          rw [z0] at T0
          rw [z1] at T1
          go_enter Tryz.func23, Tryz.ntmps23
          go_wp2_with fail
          refine (T0.out _ b0).mono ?_
          rintro e w1 ⟨rfl, b1⟩
          have c1 := b0.trans (b1.mono b0.size)
          have P1 := (b1.cell (p := ⟨w.heap.size, 0, none⟩) hl).trans P
          go_wp2_with fail
          refine (T1.out _ c1).mono ?_
          rintro e w2 ⟨rfl, b2⟩
          have c2 := c1.trans (b2.mono c1.size)
          go_wp2_with fail
          go_ret
          exact ⟨by rw [HX.out]; rfl, c2⟩
        · skip
          rw [z0, z1, z2, z3] at hX
          have HX : Hid (X = true) := hX
          have T0 := hide (fun wx hb => HT.out 1 wx hb)
          have T1 := hide (fun wx hb => HT.out 3 wx hb)
          clear hX HT
          rw [z0] at T0
          rw [z1] at T1
          go_enter Tryz.func23, Tryz.ntmps23
          go_wp2_with fail
          refine (T0.out _ b0).mono ?_
          rintro e w1 ⟨rfl, b1⟩
          have c1 := b0.trans (b1.mono b0.size)
          have P1 := (b1.cell (p := ⟨w.heap.size, 0, none⟩) hl).trans P
          go_wp2_with fail
          refine (T1.out _ c1).mono ?_
          rintro e w2 ⟨rfl, b2⟩
          have c2 := c1.trans (b2.mono c1.size)
          go_wp2_with fail
          go_ret
          exact ⟨by rw [HX.out]; rfl, c2⟩
      · skip
        rw [z0, z1, z2] at hX
        have HX : Hid (X = true) := hX
        have T0 := hide (fun wx hb => HT.out 1 wx hb)
        have T1 := hide (fun wx hb => HT.out 3 wx hb)
        clear hX HT
        rw [z0] at T0
        rw [z1] at T1
        go_enter Tryz.func23, Tryz.ntmps23
        go_wp2_with fail
        refine (T0.out _ b0).mono ?_
        rintro e w1 ⟨rfl, b1⟩
        have c1 := b0.trans (b1.mono b0.size)
        have P1 := (b1.cell (p := ⟨w.heap.size, 0, none⟩) hl).trans P
        go_wp2_with fail
        refine (T1.out _ c1).mono ?_
        rintro e w2 ⟨rfl, b2⟩
        have c2 := c1.trans (b2.mono c1.size)
        go_wp2_with fail
        go_ret
        exact ⟨by rw [HX.out]; rfl, c2⟩
    · skip
      rw [z0, z1] at hX
      have HX : Hid (X = true) := hX
      have T0 := hide (fun wx hb => HT.out 1 wx hb)
      have T1 := hide (fun wx hb => HT.out 3 wx hb)
      clear hX HT
      rw [z0] at T0
      rw [z1] at T1
      go_enter Tryz.func23, Tryz.ntmps23
      go_wp2_with fail
      refine (T0.out _ b0).mono ?_
      rintro e w1 ⟨rfl, b1⟩
      have c1 := b0.trans (b1.mono b0.size)
      have P1 := (b1.cell (p := ⟨w.heap.size, 0, none⟩) hl).trans P
      go_wp2_with fail
      refine (T1.out _ c1).mono ?_
      rintro e w2 ⟨rfl, b2⟩
      have c2 := c1.trans (b2.mono c1.size)
      go_wp2_with fail
      go_ret
      exact ⟨by rw [HX.out]; rfl, c2⟩
  · skip
    rw [z0] at hX
    have HX : Hid (X = true) := hX
    have T0 := hide (fun wx hb => HT.out 1 wx hb)
    clear hX HT
    rw [z0] at T0
    go_enter Tryz.func23, Tryz.ntmps23
    go_wp2_with fail
    refine (T0.out _ b0).mono ?_
    rintro e w1 ⟨rfl, b1⟩
    have c1 := b0.trans (b1.mono b0.size)
    have P1 := (b1.cell (p := ⟨w.heap.size, 0, none⟩) hl).trans P
    go_wp2_with fail
    go_ret
    exact ⟨by rw [HX.out]; rfl, c1⟩

set_option maxHeartbeats 1000000 in
set_option maxRecDepth 100000 in
theorem iCon (mb : Nat) (t : ByteArray) (w : World) (hm : mb < w.heap.size) (hK : KM w mb) :
    Calls Tryz.prog 24 #[.agg #[.map (some mb)], .string t] w fun e w' => e = .returned (.bool (cn t)) ∧ Below w.heap.size w w' := by
  have b0 := below_alloc1 w (.cells #[.map (some mb)] 42)
  have P : (w.alloc (.cells #[.map (some mb)] 42)).cell? ⟨w.heap.size, 0, none⟩ = some (.map (some mb)) := by simp
  have hl : w.heap.size < (w.alloc (.cells #[.map (some mb)] 42)).heap.size := by simp
  have HT : Hid (∀ k wx, Below w.heap.size w wx → Calls Tryz.prog 22 #[.agg #[.map (some mb)], .string t, .int .i64 k] wx fun e w' => e = .returned (.bool (tx k t)) ∧ Below wx.heap.size wx w') := fun k wx hb => iText mb k t wx (Nat.lt_of_lt_of_le hm hb.size) (hK.below hb hm)
  obtain ⟨X, hX⟩ : ∃ X, X = cn t := ⟨_, rfl⟩
  rw [← hX]
  unfold cn at hX
  clear hm hK
  rcases z0 : tx 2 t with _ | _
  · skip
    rcases z1 : tx 4 t with _ | _
    · skip
      rw [z0, z1] at hX
      have HX : Hid (X = false) := hX
      have T0 := hide (fun wx hb => HT.out 2 wx hb)
      have T1 := hide (fun wx hb => HT.out 4 wx hb)
      clear hX HT
      rw [z0] at T0
      rw [z1] at T1
      go_enter Tryz.func24, Tryz.ntmps24
      go_wp2_with fail
      refine (T0.out _ b0).mono ?_
      rintro e w1 ⟨rfl, b1⟩
      have c1 := b0.trans (b1.mono b0.size)
      have P1 := (b1.cell (p := ⟨w.heap.size, 0, none⟩) hl).trans P
      go_wp2_with fail
      refine (T1.out _ c1).mono ?_
      rintro e w2 ⟨rfl, b2⟩
      have c2 := c1.trans (b2.mono c1.size)
      go_wp2_with fail
      go_ret
      exact ⟨by rw [HX.out]; rfl, c2⟩
    · skip
      rw [z0, z1] at hX
      have HX : Hid (X = true) := hX
      have T0 := hide (fun wx hb => HT.out 2 wx hb)
      have T1 := hide (fun wx hb => HT.out 4 wx hb)
      clear hX HT
      rw [z0] at T0
      rw [z1] at T1
      go_enter Tryz.func24, Tryz.ntmps24
      go_wp2_with fail
      refine (T0.out _ b0).mono ?_
      rintro e w1 ⟨rfl, b1⟩
      have c1 := b0.trans (b1.mono b0.size)
      have P1 := (b1.cell (p := ⟨w.heap.size, 0, none⟩) hl).trans P
      go_wp2_with fail
      refine (T1.out _ c1).mono ?_
      rintro e w2 ⟨rfl, b2⟩
      have c2 := c1.trans (b2.mono c1.size)
      go_wp2_with fail
      go_ret
      exact ⟨by rw [HX.out]; rfl, c2⟩
  · skip
    rw [z0] at hX
    have HX : Hid (X = true) := hX
    have T0 := hide (fun wx hb => HT.out 2 wx hb)
    clear hX HT
    rw [z0] at T0
    go_enter Tryz.func24, Tryz.ntmps24
    go_wp2_with fail
    refine (T0.out _ b0).mono ?_
    rintro e w1 ⟨rfl, b1⟩
    have c1 := b0.trans (b1.mono b0.size)
    have P1 := (b1.cell (p := ⟨w.heap.size, 0, none⟩) hl).trans P
    go_wp2_with fail
    go_ret
    exact ⟨by rw [HX.out]; rfl, c1⟩

set_option maxHeartbeats 1000000 in
set_option maxRecDepth 100000 in
theorem mName (t : ByteArray) (w : World) :
    Calls Tryz.prog 48 #[.string t] w fun e w' => e = .returned (.bool (vr t)) ∧ Below w.heap.size w w' := by
  have b0 := Below.refl w.heap.size w
  have HT : Hid (∀ k wx, Below w.heap.size w wx → Calls Tryz.prog 49 #[.int .i64 k, .string t] wx fun e w' => e = .returned (.bool (tx k t)) ∧ Below wx.heap.size wx w') := fun k wx hb => mText k t wx
  obtain ⟨X, hX⟩ : ∃ X, X = vr t := ⟨_, rfl⟩
  rw [← hX]
  unfold vr at hX
  rcases z0 : tx 1 t with _ | _
  · skip
    rcases z1 : tx 3 t with _ | _
    · skip
      rcases z2 : (t.toList == [33]) with _ | _
      · skip
        rcases z3 : (t.toList == [126]) with _ | _
        · skip
          rw [z0, z1, z2, z3] at hX
          have HX : Hid (X = false) := hX
          have T0 := hide (fun wx hb => HT.out 1 wx hb)
          have T1 := hide (fun wx hb => HT.out 3 wx hb)
          clear hX HT
          rw [z0] at T0
          rw [z1] at T1
          go_enter Tryz.func48, Tryz.ntmps48
          go_wp2_with fail
          refine (T0.out _ b0).mono ?_
          rintro e w1 ⟨rfl, b1⟩
          have c1 := b0.trans (b1.mono b0.size)
          go_wp2_with fail
          refine (T1.out _ c1).mono ?_
          rintro e w2 ⟨rfl, b2⟩
          have c2 := c1.trans (b2.mono c1.size)
          go_wp2_with fail
          go_ret
          exact ⟨by rw [HX.out]; rfl, c2⟩
        · skip
          rw [z0, z1, z2, z3] at hX
          have HX : Hid (X = true) := hX
          have T0 := hide (fun wx hb => HT.out 1 wx hb)
          have T1 := hide (fun wx hb => HT.out 3 wx hb)
          clear hX HT
          rw [z0] at T0
          rw [z1] at T1
          go_enter Tryz.func48, Tryz.ntmps48
          go_wp2_with fail
          refine (T0.out _ b0).mono ?_
          rintro e w1 ⟨rfl, b1⟩
          have c1 := b0.trans (b1.mono b0.size)
          go_wp2_with fail
          refine (T1.out _ c1).mono ?_
          rintro e w2 ⟨rfl, b2⟩
          have c2 := c1.trans (b2.mono c1.size)
          go_wp2_with fail
          go_ret
          exact ⟨by rw [HX.out]; rfl, c2⟩
      · skip
        rw [z0, z1, z2] at hX
        have HX : Hid (X = true) := hX
        have T0 := hide (fun wx hb => HT.out 1 wx hb)
        have T1 := hide (fun wx hb => HT.out 3 wx hb)
        clear hX HT
        rw [z0] at T0
        rw [z1] at T1
        go_enter Tryz.func48, Tryz.ntmps48
        go_wp2_with fail
        refine (T0.out _ b0).mono ?_
        rintro e w1 ⟨rfl, b1⟩
        have c1 := b0.trans (b1.mono b0.size)
        go_wp2_with fail
        refine (T1.out _ c1).mono ?_
        rintro e w2 ⟨rfl, b2⟩
        have c2 := c1.trans (b2.mono c1.size)
        go_wp2_with fail
        go_ret
        exact ⟨by rw [HX.out]; rfl, c2⟩
    · skip
      rw [z0, z1] at hX
      have HX : Hid (X = true) := hX
      have T0 := hide (fun wx hb => HT.out 1 wx hb)
      have T1 := hide (fun wx hb => HT.out 3 wx hb)
      clear hX HT
      rw [z0] at T0
      rw [z1] at T1
      go_enter Tryz.func48, Tryz.ntmps48
      go_wp2_with fail
      refine (T0.out _ b0).mono ?_
      rintro e w1 ⟨rfl, b1⟩
      have c1 := b0.trans (b1.mono b0.size)
      go_wp2_with fail
      refine (T1.out _ c1).mono ?_
      rintro e w2 ⟨rfl, b2⟩
      have c2 := c1.trans (b2.mono c1.size)
      go_wp2_with fail
      go_ret
      exact ⟨by rw [HX.out]; rfl, c2⟩
  · skip
    rw [z0] at hX
    have HX : Hid (X = true) := hX
    have T0 := hide (fun wx hb => HT.out 1 wx hb)
    clear hX HT
    rw [z0] at T0
    go_enter Tryz.func48, Tryz.ntmps48
    go_wp2_with fail
    refine (T0.out _ b0).mono ?_
    rintro e w1 ⟨rfl, b1⟩
    have c1 := b0.trans (b1.mono b0.size)
    go_wp2_with fail
    go_ret
    exact ⟨by rw [HX.out]; rfl, c1⟩

set_option maxHeartbeats 1000000 in
set_option maxRecDepth 100000 in
theorem mCon (t : ByteArray) (w : World) :
    Calls Tryz.prog 50 #[.string t] w fun e w' => e = .returned (.bool (cn t)) ∧ Below w.heap.size w w' := by
  have b0 := Below.refl w.heap.size w
  have HT : Hid (∀ k wx, Below w.heap.size w wx → Calls Tryz.prog 49 #[.int .i64 k, .string t] wx fun e w' => e = .returned (.bool (tx k t)) ∧ Below wx.heap.size wx w') := fun k wx hb => mText k t wx
  obtain ⟨X, hX⟩ : ∃ X, X = cn t := ⟨_, rfl⟩
  rw [← hX]
  unfold cn at hX
  rcases z0 : tx 2 t with _ | _
  · skip
    rcases z1 : tx 4 t with _ | _
    · skip
      rw [z0, z1] at hX
      have HX : Hid (X = false) := hX
      have T0 := hide (fun wx hb => HT.out 2 wx hb)
      have T1 := hide (fun wx hb => HT.out 4 wx hb)
      clear hX HT
      rw [z0] at T0
      rw [z1] at T1
      go_enter Tryz.func50, Tryz.ntmps50
      go_wp2_with fail
      refine (T0.out _ b0).mono ?_
      rintro e w1 ⟨rfl, b1⟩
      have c1 := b0.trans (b1.mono b0.size)
      go_wp2_with fail
      refine (T1.out _ c1).mono ?_
      rintro e w2 ⟨rfl, b2⟩
      have c2 := c1.trans (b2.mono c1.size)
      go_wp2_with fail
      go_ret
      exact ⟨by rw [HX.out]; rfl, c2⟩
    · skip
      rw [z0, z1] at hX
      have HX : Hid (X = true) := hX
      have T0 := hide (fun wx hb => HT.out 2 wx hb)
      have T1 := hide (fun wx hb => HT.out 4 wx hb)
      clear hX HT
      rw [z0] at T0
      rw [z1] at T1
      go_enter Tryz.func50, Tryz.ntmps50
      go_wp2_with fail
      refine (T0.out _ b0).mono ?_
      rintro e w1 ⟨rfl, b1⟩
      have c1 := b0.trans (b1.mono b0.size)
      go_wp2_with fail
      refine (T1.out _ c1).mono ?_
      rintro e w2 ⟨rfl, b2⟩
      have c2 := c1.trans (b2.mono c1.size)
      go_wp2_with fail
      go_ret
      exact ⟨by rw [HX.out]; rfl, c2⟩
  · skip
    rw [z0] at hX
    have HX : Hid (X = true) := hX
    have T0 := hide (fun wx hb => HT.out 2 wx hb)
    clear hX HT
    rw [z0] at T0
    go_enter Tryz.func50, Tryz.ntmps50
    go_wp2_with fail
    refine (T0.out _ b0).mono ?_
    rintro e w1 ⟨rfl, b1⟩
    have c1 := b0.trans (b1.mono b0.size)
    go_wp2_with fail
    go_ret
    exact ⟨by rw [HX.out]; rfl, c1⟩

set_option maxHeartbeats 1000000 in
set_option maxRecDepth 100000 in
theorem mDig (t : ByteArray) (w : World) :
    Calls Tryz.prog 51 #[.string t] w fun e w' => e = .returned (.bool (tx 5 t)) ∧ Below w.heap.size w w' := by
  have HS := hide (mText 5 t w)
  generalize tx 5 t = X at *
  go_enter Tryz.func51, Tryz.ntmps51
  go_wp2_with fail
  refine HS.out.mono ?_
  rintro e w2 ⟨rfl, b2⟩
  go_wp2_with fail
  go_ret
  exact ⟨rfl, b2⟩

end Go.Proofs.YtjfoagmenehapaaGreatDoor

namespace Go.Proofs.YtjfoagmenehapaaGreatDoor
open Go.RowKit Go.Joins

def fixN (t : ByteArray) : Bool := t.toList == [105, 110, 102, 105, 120] || (t.toList == [105, 110, 102, 105, 120, 108] || t.toList == [105, 110, 102, 105, 120, 114])
/-- Digits, or a minus and digits that are not 0. -/
def sg (t : ByteArray) : Bool := tx 5 ⟨(Lib.trimPrefix t.data.toList [45]).toArray⟩ && !(Lib.hasPrefix t.data.toList [45] && (⟨(Lib.trimPrefix t.data.toList [45]).toArray⟩ : ByteArray).toList == [48])

set_option maxHeartbeats 1000000 in
set_option maxRecDepth 100000 in
theorem iSigned (mb : Nat) (t : ByteArray) (w : World) (hm : mb < w.heap.size) (hK : KM w mb) :
    Calls Tryz.prog 25 #[.agg #[.map (some mb)], .string t] w fun e w' => e = .returned (.bool (sg t)) ∧ Below w.heap.size w w' := by
  have b0 := below_alloc1 w (.cells #[.map (some mb)] 42)
  have HC : Hid (∀ wx, Calls Tryz.prog 40 #[.string t, .string ⟨#[45]⟩] wx fun e w' => e = .returned (.tuple #[.string ⟨(Lib.trimPrefix t.data.toList [45]).toArray⟩, .bool (Lib.hasPrefix t.data.toList [45])]) ∧ w' = wx) := fun wx => Tryz.strings_CutPrefix t ⟨#[45]⟩ wx
  unfold sg
  generalize (⟨(Lib.trimPrefix t.data.toList [45]).toArray⟩ : ByteArray) = d at *
  generalize Lib.hasPrefix t.data.toList [45] = p at *
  have HT := hide (iText mb 5 d _ (Nat.lt_of_lt_of_le hm b0.size) (hK.below b0 hm))
  clear hm hK
  rcases z1 : tx 5 d with _ | _
  · rw [z1] at HT
    clear z1
    go_enter Tryz.func25, Tryz.ntmps25
    go_wp2_with fail
    refine (HC.out _).mono ?_
    rintro e w2 ⟨rfl, rfl⟩
    go_wp2_with fail
    refine HT.out.mono ?_
    rintro e w3 ⟨rfl, b3⟩
    go_wp2_with fail
    go_ret
    exact ⟨rfl, b0.trans (b3.mono b0.size)⟩
  · rw [z1] at HT
    clear z1
    rcases z2 : (d.toList == [48]) with _ | _
    all_goals
      rcases z3 : p with _ | _
      all_goals
        rw [z3] at HC
        clear z3
        go_enter Tryz.func25, Tryz.ntmps25
        go_wp2_with fail
        refine (HC.out _).mono ?_
        rintro e w2 ⟨rfl, rfl⟩
        go_wp2_with fail
        refine HT.out.mono ?_
        rintro e w3 ⟨rfl, b3⟩
        go_wp2_with fail
        go_ret
        exact ⟨rfl, b0.trans (b3.mono b0.size)⟩

end Go.Proofs.YtjfoagmenehapaaGreatDoor

namespace Go.Proofs.YtjfoagmenehapaaGreatDoor.Tree
open Go.RowKit Go.Joins

/-- Names without a name of their own. -/
def plainB (k : Int) (nm : ByteArray) : Bool := k == 70 && nm.toList.isEmpty

set_option maxHeartbeats 1000000 in
set_option maxRecDepth 100000 in
theorem mPlain (k : Int) (nm : ByteArray) (a : Option Addr) (n cap : Nat) (W : World) :
    Calls Tryz.prog 55 #[nodeV k nm a n cap] W fun e W' => e = .returned (.bool (plainB k nm)) ∧ Below W.heap.size W W' := by
  unfold nodeV plainB
  have b0 := below_alloc1 W (.cells #[.int .i64 k, .string nm, .slice a n cap] 29)
  rcases z : (k == 70) with _ | _
  all_goals
    go_enter Tryz.func55, Tryz.ntmps55
    go_wp2_with fail
    go_ret
    exact ⟨rfl, b0⟩

/-- A constructor with a variable. -/
def bndB (x : Kn) : Bool := x.k == 52 && (match x.ks.list with | [y, z] => y.k == 51 && z.k == 50 | _ => false)

theorem all_step {L : List Kn} {p : Kn → Bool} {i : Nat} {x : Kn} (hx : L[i]? = some x) : (L.drop i).all p = (p x && (L.drop (i + 1)).all p) := by
  obtain ⟨hl, rfl⟩ := List.getElem?_eq_some_iff.1 hx
  rw [List.drop_eq_getElem_cons hl, List.all_cons]
theorem all_end {L : List Kn} {p : Kn → Bool} {i : Nat} (h : L.length ≤ i) : (L.drop i).all p = true := by
  rw [List.drop_eq_nil_of_le h]; rfl

set_option maxHeartbeats 2000000 in
set_option maxRecDepth 100000 in
theorem mContext (k : Int) (nm : ByteArray) (a : Option Addr) (cap n : Nat) (L : List Kn) (W : World) (hl : L.length = n) (hn : n ≤ maxLen) (hk : Kids W W.heap.size a L) :
    Calls Tryz.prog 57 #[nodeV k nm a n cap] W fun e W' => e = .returned (.bool (L.all bndB)) ∧ Below W.heap.size W W' := by
  obtain ⟨T, hT⟩ : ∃ T, T = L.all bndB := ⟨_, rfl⟩
  rw [← hT]
  unfold nodeV
  have hmx : (n : Int) ≤ 9223372036854775807 := by simp only [maxLen] at hn; omega
  have HT : Hid (T = (L.drop 0).all bndB) := hT
  have HL := hide hl
  have HK := hide hk
  have q1 := Box3.new W (.int .i64 k) (.string nm) (.slice a n cap) 29
  have hB0 : Below W.heap.size W (W.alloc (.cells #[.int .i64 k, .string nm, .slice a n cap] 29)) := below_alloc1 _ _
  clear hT hl hk hn
  go_enter Tryz.func57, Tryz.ntmps57
  go_wp2_with fail
  generalize W.alloc (.cells #[.int .i64 k, .string nm, .slice a n cap] 29) = W0 at *
  have HQ := hide q1
  clear q1
  go_loopw [3, 4] (fun s3 _ wr => ∃ i : Nat, s3 = .int .i64 i ∧ i ≤ n ∧ Hid (T = (L.drop i).all bndB) ∧ Hid (Box3 wr W.heap.size (.int .i64 k) (.string nm) (.slice a n cap)) ∧ Below W.heap.size W wr) (fun s3 _ _ => n - (intOf s3).toNat)
  case atStart => exact ⟨0, rfl, Nat.zero_le _, HT, HQ, hB0⟩
  case round =>
    obtain ⟨i, rfl, hin, HT', HQ', bel⟩ := hrel
    have qlt := HQ'.out.lt
    obtain ⟨-, d0, d1, d2, -, -, -⟩ := HQ'.out
    by_cases hi : i < n
    · have hi' : (i : Int) < n := by omega
      have hil : i < L.length := by rw [HL.out]; exact hi
      obtain ⟨g, o, rfl, hg, hr⟩ := (HK.out.below bel (Nat.le_refl _)) (by omega)
      obtain ⟨x, hx⟩ : ∃ x, L[i]? = some x := ⟨_, List.getElem?_eq_getElem hil⟩
      obtain ⟨-, -, c0, c1, c2, sl⟩ := hr i x hx
      have HS := hide (HT'.out.trans (all_step (p := bndB) hx))
      have hbx := below_alloc1 wr (.cells #[.int .i64 x.k, .string x.nm, .slice x.a x.ks.len x.cap] 29)
      have hB2 := bel.trans (hbx.mono bel.size)
      have HQ2 := hide (HQ'.out.below hbx qlt)
      have HSL := hide (sl.below hbx (fun b hb => by have := bel.size; omega)).kids
      have hll := x.ks.list_length
      clear hr HT' hil hx sl
      have hXk : bndB x = (x.k == 52 && (match x.ks.list with | [y, z] => y.k == 51 && z.k == 50 | _ => false)) := rfl
      generalize bndB x = X at *
      generalize x.ks.list = KL at *
      generalize x.ks.len = xl at *
      generalize x.k = xk at *
      generalize x.nm = xn at *
      generalize x.a = xa at *
      generalize x.cap = xc at *
      by_cases z1 : xk = 52
      · subst z1
        by_cases z2 : xl = 2
        · subst z2
          match KL, hll with
          | [y, z], _ =>
            obtain ⟨b', o', rfl, -, hr'⟩ := HSL.out (by simp)
            have y0 := (hr' 0 y rfl).c0
            have w0 := (hr' 1 z rfl).c0
            have e1 : o' + 0 * 3 = o' := by omega
            have e2 : o' + 1 * 3 = o' + 3 := by omega
            rw [e1] at y0
            rw [e2] at w0
            have hX2 : X = (y.k == 51 && z.k == 50) := hXk
            clear hr' HSL hXk hll e1 e2
            generalize y.k = yk at *
            generalize z.k = zk at *
            by_cases z3 : yk = 51
            · subst z3
              by_cases z4 : zk = 50
              · subst z4
                have HT2 : Hid (T = (L.drop (i + 1)).all bndB) := by unfold Hid; rw [HS.out, hX2]; rfl
                clear HS hX2
                have q2 := Box3.new wr (.int .i64 52) (.string xn) (.slice (some ⟨b', o', none⟩) 2 xc) 29
                go_upto_region 5 with fail
                generalize wr.alloc (.cells #[.int .i64 52, .string xn, .slice (some ⟨b', o', none⟩) 2 xc] 29) = W2 at *
                obtain ⟨-, e0, e1, e2, -, -, -⟩ := q2
                go_wp2_with fail
                go_roundw
                case rel => exact ⟨i + 1, by go_num, by omega, HT2, HQ2, hB2⟩
                case measure => simp [intOf]; omega
              · have HT2 : Hid (T = false) := by unfold Hid; rw [HS.out, hX2]; simp [z4]
                have z4' : (zk == 50) = false := beq_eq_false_iff_ne.2 z4
                have z4'' : (zk != 50) = true := by simpa using z4
                clear HS hX2 z4
                have q2 := Box3.new wr (.int .i64 52) (.string xn) (.slice (some ⟨b', o', none⟩) 2 xc) 29
                go_upto_region 5 with fail
                generalize wr.alloc (.cells #[.int .i64 52, .string xn, .slice (some ⟨b', o', none⟩) 2 xc] 29) = W2 at *
                obtain ⟨-, e0, e1, e2, -, -, -⟩ := q2
                go_wp2_with fail
                go_ret
                exact ⟨by rw [HT2.out]; rfl, hB2⟩
            · have HT2 : Hid (T = false) := by unfold Hid; rw [HS.out, hX2]; simp [z3]
              have z3' : (yk == 51) = false := beq_eq_false_iff_ne.2 z3
              have z3'' : (yk != 51) = true := by simpa using z3
              clear HS hX2 z3
              have q2 := Box3.new wr (.int .i64 52) (.string xn) (.slice (some ⟨b', o', none⟩) 2 xc) 29
              go_upto_region 5 with fail
              generalize wr.alloc (.cells #[.int .i64 52, .string xn, .slice (some ⟨b', o', none⟩) 2 xc] 29) = W2 at *
              obtain ⟨-, e0, e1, e2, -, -, -⟩ := q2
              go_wp2_with fail
              go_ret
              exact ⟨by rw [HT2.out]; rfl, hB2⟩
        · have HT2 : Hid (T = false) := by
            unfold Hid
            rw [HS.out, hXk]
            match KL, hll with
            | [], _ => rfl
            | [_], _ => rfl
            | [_, _], h => exact absurd h.symm z2
            | _ :: _ :: _ :: _, _ => rfl
          have z2' : ((xl : Int) == 2) = false := beq_eq_false_iff_ne.2 (by omega)
          have z2'' : ((xl : Int) != 2) = true := by simp; omega
          clear HS hXk z2 HSL hll
          have q2 := Box3.new wr (.int .i64 52) (.string xn) (.slice xa xl xc) 29
          go_upto_region 5 with fail
          generalize wr.alloc (.cells #[.int .i64 52, .string xn, .slice xa xl xc] 29) = W2 at *
          obtain ⟨-, e0, e1, e2, -, -, -⟩ := q2
          go_wp2_with fail
          go_ret
          exact ⟨by rw [HT2.out]; rfl, hB2⟩
      · have HT2 : Hid (T = false) := by unfold Hid; rw [HS.out, hXk]; simp [z1]
        have z1' : (xk == 52) = false := beq_eq_false_iff_ne.2 z1
        have z1'' : (xk != 52) = true := by simpa using z1
        clear HS hXk z1 HSL hll
        have q2 := Box3.new wr (.int .i64 xk) (.string xn) (.slice xa xl xc) 29
        go_upto_region 5 with fail
        generalize wr.alloc (.cells #[.int .i64 xk, .string xn, .slice xa xl xc] 29) = W2 at *
        obtain ⟨-, e0, e1, e2, -, -, -⟩ := q2
        go_wp2_with fail
        go_ret
        exact ⟨by rw [HT2.out]; rfl, hB2⟩
    · have hi' : ¬ (i : Int) < n := by omega
      have HT2 : Hid (T = true) := HT'.out.trans (all_end (by rw [HL.out]; omega))
      clear HT'
      go_wp2_with fail
      go_ret
      exact ⟨by rw [HT2.out]; rfl, bel⟩

end Go.Proofs.YtjfoagmenehapaaGreatDoor.Tree

namespace Go.Proofs.YtjfoagmenehapaaGreatDoor.Tree
open Go.RowKit Go.Joins

theorem KnAt.mono {A : World} {n0 m b o : Nat} {x : Kn} (h : KnAt A (fun b => b < n0) b o x) (hm : n0 ≤ m) : KnAt A (fun b => b < m) b o x :=
  ⟨h.wf, h.nl, h.c0, h.c1, h.c2, h.sl.mono (fun b hb => by omega)⟩
theorem Kids.mono {A : World} {n0 m : Nat} {a : Option Addr} {L : List Kn} (h : Kids A n0 a L) (hm : n0 ≤ m) : Kids A m a L := fun hp => by
  obtain ⟨b, o, e, hb, hr⟩ := h hp
  exact ⟨b, o, e, by omega, fun i x hx => (hr i x hx).mono hm⟩
/-- What the kids are at a later world. -/
theorem Kids.at {A B : World} {a : Option Addr} {L : List Kn} (h : Kids A A.heap.size a L) (k : Below A.heap.size A B) : Kids B B.heap.size a L := (h.below k (Nat.le_refl _)).mono k.size

theorem allB_full {L : List Kn} {p : Int → Bool} {i n : Nat} (h : L.length = n) : allB L p i n = (L.drop i).all (fun x => p x.k) := by
  unfold allB
  rw [List.take_of_length_le (by omega)]

theorem drop_step {L : List Kn} {i : Nat} {x : Kn} (hx : L[i]? = some x) : L.drop i = x :: L.drop (i + 1) := by
  obtain ⟨hl, rfl⟩ := List.getElem?_eq_some_iff.1 hx
  exact List.drop_eq_getElem_cons hl

/-- A right side's kids. -/
def rhsM : List Kn → Bool
  | [] => false
  | x :: R => if x.k = 21 then (R.dropWhile (fun y => y.k == 21)).all (fun y => dK y.k) else eK x.k && R.all (fun y => dK y.k)

set_option maxHeartbeats 2000000 in
set_option maxRecDepth 100000 in
theorem mRhs (k : Int) (nm : ByteArray) (a : Option Addr) (cap n : Nat) (L : List Kn) (W : World) (hl : L.length = n) (hn : n ≤ maxLen) (hk : Kids W W.heap.size a L) :
    Calls Tryz.prog 54 #[nodeV k nm a n cap] W fun e W' => e = .returned (.bool (rhsM L)) ∧ Below W.heap.size W W' := by
  have HD : Hid (∀ wx (i : Nat), Below W.heap.size W wx → Calls Tryz.prog 52 #[.agg #[.int .i64 k, .string nm, .slice a n cap], .int .i64 i, .int .i64 n, .int .u8 100, .int .i64 0] wx fun e W' => e = .returned (.bool ((L.drop i).all (fun y => dK y.k))) ∧ Below wx.heap.size wx W') := fun wx i hb => by
    rw [← allB_full hl]; exact mAllD k nm a cap n L i n 0 wx hl hn (Nat.le_refl _) (hk.at hb)
  have HK := hide hk
  have hmx : (n : Int) ≤ 9223372036854775807 := by simp only [maxLen] at hn; omega
  unfold nodeV
  have q1 := Box3.new W (.int .i64 k) (.string nm) (.slice a n cap) 29
  have hB0 : Below W.heap.size W (W.alloc (.cells #[.int .i64 k, .string nm, .slice a n cap] 29)) := below_alloc1 _ _
  clear hk hn
  match L, hl, HD, HK with
  | [], hl, HD, HK =>
    have h0 : n = 0 := hl.symm
    subst h0
    go_enter Tryz.func54, Tryz.ntmps54
    go_wp2_with fail
    go_ret
    exact ⟨rfl, hB0⟩
  | x :: R, hl, HD, HK =>
    have hn2 : 1 ≤ n := by rw [← hl]; simp
    have hn0 : ((n : Int) == 0) = false := beq_eq_false_iff_ne.2 (by omega)
    have hn1 : (0 : Int) < n := by omega
    obtain ⟨T, hT⟩ : ∃ T, T = rhsM (x :: R) := ⟨_, rfl⟩
    rw [← hT]
    have HTT := hide hT
    clear hT
    obtain ⟨g, o, rfl, hg, hr⟩ := HK.out (by simp)
    have x0 := ((hr 0 x rfl).below hB0 hg (Nat.le_refl _)).c0
    have e0 : o + 0 * 3 = o := by omega
    rw [e0] at x0
    have HR := hide hr
    have HL := hide hl
    clear hr hl e0
    go_enter Tryz.func54, Tryz.ntmps54
    go_upto_region 5 with fail
    generalize W.alloc (.cells #[.int .i64 k, .string nm, .slice (some ⟨g, o, none⟩) n cap] 29) = W0 at *
    have HQ := hide q1
    obtain ⟨-, d0, d1, d2, -, -, -⟩ := q1
    by_cases hx : x.k = 21
    · have hres : rhsM (x :: R) = (R.dropWhile (fun y => y.k == 21)).all (fun y => dK y.k) := by
        show (if x.k = 21 then (R.dropWhile (fun y => y.k == 21)).all (fun y => dK y.k) else eK x.k && R.all (fun y => dK y.k)) = _
        rw [if_pos hx]
      rw [hx] at x0
      have HT : Hid (T = (((x :: R).drop 1).dropWhile (fun y => y.k == 21)).all (fun y => dK y.k)) := HTT.out.trans hres
      clear HTT hres hx
      go_wp2_with fail
      clear d0 d1 d2 x0
      generalize x :: R = L at *
      go_loopw [4] (fun s4 wr => ∃ i : Nat, s4 = .int .i64 i ∧ i ≤ n ∧ Hid (T = ((L.drop i).dropWhile (fun y => y.k == 21)).all (fun y => dK y.k)) ∧ wr = W0) (fun s4 _ => n - (intOf s4).toNat)
      case atStart => exact ⟨1, rfl, hn2, HT, rfl⟩
      case round =>
        obtain ⟨i, rfl, hin, HT', rfl⟩ := hrel
        obtain ⟨-, d0, d1, d2, -, -, -⟩ := HQ.out
        by_cases hi : i < n
        · have hi' : (i : Int) < n := by omega
          obtain ⟨y, hy⟩ : ∃ y, L[i]? = some y := ⟨_, List.getElem?_eq_getElem (by rw [HL.out]; exact hi)⟩
          have c0 := ((HR.out i y hy).below hB0 hg (Nat.le_refl _)).c0
          have hds := drop_step hy
          by_cases hy1 : y.k = 21
          · have HT2 : Hid (T = ((L.drop (i + 1)).dropWhile (fun y => y.k == 21)).all (fun y => dK y.k)) := by
              unfold Hid; rw [HT'.out, hds, List.dropWhile_cons, if_pos (by simp [hy1])]
            rw [hy1] at c0
            clear HT' hds hy hy1
            go_wp2_with fail
            go_roundw
            case rel => exact ⟨i + 1, by go_num, by omega, HT2, trivial⟩
            case measure => simp [intOf]; omega
          · have HT2 : Hid (T = (L.drop i).all (fun y => dK y.k)) := by
              unfold Hid; rw [HT'.out, hds, List.dropWhile_cons, if_neg (by simp [hy1])]
            have hy2 : (y.k == 21) = false := beq_eq_false_iff_ne.2 hy1
            have HDi := hide (HD.out _ i hB0)
            rw [← HT2.out] at HDi
            generalize y.k = yk at *
            clear HT' hds hy hy1 HT2
            go_wp2_with fail
            refine HDi.out.mono ?_
            rintro e w2 ⟨rfl, b2⟩
            go_wp2_with fail
            go_ret
            exact ⟨rfl, hB0.trans (b2.mono hB0.size)⟩
        · have hi' : ¬ (i : Int) < n := by omega
          have HT2 : Hid (T = (L.drop i).all (fun y => dK y.k)) := by
            unfold Hid; rw [HT'.out, List.drop_eq_nil_of_le (by rw [HL.out]; omega)]; rfl
          have HDi := hide (HD.out _ i hB0)
          rw [← HT2.out] at HDi
          clear HT' HT2
          go_wp2_with fail
          refine HDi.out.mono ?_
          rintro e w2 ⟨rfl, b2⟩
          go_wp2_with fail
          go_ret
          exact ⟨rfl, hB0.trans (b2.mono hB0.size)⟩
    · have hres : rhsM (x :: R) = (eK x.k && ((x :: R).drop 1).all (fun y => dK y.k)) := by
        show (if x.k = 21 then (R.dropWhile (fun y => y.k == 21)).all (fun y => dK y.k) else eK x.k && R.all (fun y => dK y.k)) = _
        rw [if_neg hx]; rfl
      have hx2 : (x.k == 21) = false := beq_eq_false_iff_ne.2 hx
      have HE : Hid (∀ wx, Calls Tryz.prog 79 #[.int .i64 x.k] wx fun e w' => e = .returned (.bool (eK x.k)) ∧ w' = wx) := fun wx => mExpr x.k wx
      have HDi := hide (HD.out W0 1 hB0)
      have HT := hide (HTT.out.trans hres)
      generalize ((x :: R).drop 1).all (fun y => dK y.k) = Y at *
      generalize eK x.k = X at *
      generalize x.k = xk at *
      clear hx hres HTT
      cases X with
      | false =>
        have HT2 : Hid (T = false) := HT.out
        clear HT
        go_wp2_with fail
        refine (HE.out _).mono ?_
        rintro e w2 ⟨rfl, rfl⟩
        go_wp2_with fail
        go_ret
        exact ⟨by rw [HT2.out]; rfl, hB0⟩
      | true =>
        have HT2 : Hid (T = Y) := HT.out
        clear HT
        go_wp2_with fail
        refine (HE.out _).mono ?_
        rintro e w2 ⟨rfl, rfl⟩
        go_wp2_with fail
        refine HDi.out.mono ?_
        rintro e w3 ⟨rfl, b3⟩
        go_wp2_with fail
        go_ret
        exact ⟨by rw [HT2.out]; rfl, hB0.trans (b3.mono hB0.size)⟩

end Go.Proofs.YtjfoagmenehapaaGreatDoor.Tree

