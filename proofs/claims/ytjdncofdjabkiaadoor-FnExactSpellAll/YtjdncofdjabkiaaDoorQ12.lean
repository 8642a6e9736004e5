import Derived.Test.YtjdncofdjabkiaaDoorQ11
import Derived.Test.YtjdncofdjabkiaaDoorQ07
import Derived.Deep.RegionHeld3
namespace Go.Proofs.YtjdncofdjabkiaaDoor
open Go.RowKit Go.Joins

/-- Where the reading of quoted text stands: at a place, or behind a backslash. -/
def QAt (u : ByteArray) (m pos : Nat) (f : Bool) (acc : List UInt8) : Prop :=
  if f = true then 1 ≤ pos ∧ bt u (pos - 1) = 92 ∧ quo u m (pos - 1) acc = quo u m 0 [] else quo u m pos acc = quo u m 0 []

theorem put_byte (B b : Nat) (l : List UInt8) (c : UInt8) (w : World) (h : Lib.IsBuilderF 56 5 B b (Lib.byteCells l) w) (hl : l.length + 1 ≤ 70368744177664) (hBw : B ≤ w.heap.size) :
    Calls Tryd.prog 33 #[.pointer (some ⟨b, 0, none⟩), .int .u8 (c.toNat : Int)] w fun e w' => e = .returned .nilIface ∧ Lib.IsBuilderF 56 5 B b (Lib.byteCells (l ++ [c])) w' ∧ Below B w w' ∧ Lib.OthersKept 5 (some b) w w' := by
  refine (writeByte_any B b _ (c.toNat : Int) w h (by rw [Lib.byteCells_length]; omega) hBw).mono ?_
  rintro e w' ⟨rfl, hw⟩
  refine ⟨rfl, ?_, hw.2⟩
  rw [Lib.byteCells_append]
  exact .inr hw.1

set_option maxHeartbeats 2000000 in
set_option maxRecDepth 100000 in
theorem iMeant (u : ByteArray) (m : Nat) (w : World) (hu : u.size ≤ 1048576) (hm : m = 39 ∨ m = 34) :
    Calls Tryd.prog 83 #[.string u, .int .i32 m] w fun e w' => e = .returned (qmV u m) ∧ Below w.heap.size w w' := by
  go_enter Tryd.func83, Tryd.ntmps83
  go_wp2_with fail
  go_loopw [7, 8, 9, 10] (fun s7 _ _ _ wr => ∃ (pos : Nat) (f : Bool) (acc : List UInt8), s7 = .bool f ∧ pos ≤ u.size ∧ acc.length ≤ pos ∧ Hid (QAt u m pos f acc) ∧ Lib.IsBuilderF 56 5 w.heap.size w.heap.size (Lib.byteCells acc) wr ∧ wr.heap[w.heap.size + 1]? = some (.stringIter u pos) ∧ Below w.heap.size w wr) (fun _ _ _ _ wr => u.size - wr.iterPos (w.heap.size + 1))
  case atStart =>
    refine ⟨0, false, [], rfl, Nat.zero_le _, by simp, by unfold Hid QAt; rw [if_neg (by decide)], (Lib.IsBuilderF.of (Lib.fresh_isBuilder 56 5 w)).alloc _, ?_, ((Below.refl _ w).alloc (Nat.le_refl _) _).alloc (by simp) _⟩
    have := World.iter_heap (w.alloc (.cells #[.pointer none, .slice none 0 0] 56)) u 0
    simpa using this
  case round =>
    obtain ⟨pos, f, acc, rfl, g1, g2, hq, hI, hit, hb⟩ := hrel
    have hzw : w.heap.size + 1 < wr.heap.size := (Array.getElem?_eq_some_iff.1 hit).1
    by_cases hlt : pos < u.size
    · have hnx : ∀ ty, (Instr.next (.pointer (some ⟨w.heap.size + 1, 0, none⟩)) true ty).run Tryd.prog wr = _ := fun ty => Lib.run_next_any_at wr (w.heap.size + 1) u pos ty hit hlt
      have hD : 1 ≤ (Utf8.decode u pos).2 ∧ (bt u pos < 128 → (Utf8.decode u pos).1 = bt u pos ∧ (Utf8.decode u pos).2 = 1) ∧ (128 ≤ bt u pos → 128 ≤ (Utf8.decode u pos).1) ∧ (Utf8.decode u pos).1 ≤ 2147483647 := by
        by_cases hl : bt u pos < 128
        · rw [dec_low hlt hl]
          exact ⟨Nat.le_refl _, fun _ => ⟨rfl, rfl⟩, fun hh => by omega, by simp only; omega⟩
        · obtain ⟨h1, h2, h3, h4, h5⟩ := dec_high hlt (by omega)
          exact ⟨h3, fun hh => by omega, fun _ => h1, by omega⟩
      obtain ⟨w1, w2, w3, w4⟩ := hD
      generalize (Utf8.decode u pos).1 = c at *
      generalize (Utf8.decode u pos).2 = wd at *
      have hit2 := Lib.iterAt_heap wr (w.heap.size + 1) u pos (pos + wd) hit
      have hI2 := hI.iterAt hit (pos + wd)
      have hb2 := Lib.below_iterAt hb (k := w.heap.size + 1) (by omega) u (pos + wd)
      have hz2 : w.heap.size ≤ (wr.iterAt (w.heap.size + 1) u (pos + wd)).heap.size := by rw [Lib.iterAt_size]; omega
      have HW2 := hide w2
      have HW3 := hide w3
      have hQ := hq.out
      unfold QAt at hQ
      clear w2 w3
      cases f
      · rw [if_neg (by decide)] at hQ
        have hQ0 := hQ
        rw [quo, if_neg (by omega)] at hQ
        by_cases e1 : bt u pos = m
        · rw [if_pos e1] at hQ
          have en : Hid (qmV u m = .tuple #[.string ⟨acc.toArray⟩, .int .i64 ((pos + 1 : Nat) : Int)]) := qmV_some hQ.symm
          have hcc := (HW2.out (by omega)).1
          have z1 : ((c : Int) == (m : Int)) = true := by simp; omega
          clear hQ hQ0 hcc e1
          go_wp2_with fail
          refine (Tryd.Builder_String_any_k w.heap.size w.heap.size acc _ hI2 hz2).mono ?_
          rintro e w6 ⟨rfl, h6, b6, o6⟩
          go_wp2_with fail
          go_ret2
          exact ⟨by rw [en.out]; exact congrArg Ending.returned (by simp), hb2.trans b6⟩
        · rw [if_neg e1] at hQ
          have z1 : ((c : Int) == (m : Int)) = false := by
            by_cases hl : bt u pos < 128
            · have := (HW2.out hl).1; simp; omega
            · have := HW3.out (by omega); simp; omega
          by_cases e2 : bt u pos = 92
          · have hcc := HW2.out (by omega)
            have z2 : ((c : Int) == 92) = true := by simp; omega
            have HWD := hide hcc.2
            have HQ0 := hide hQ0
            have HE2 := hide e2
            clear hQ hQ0 hcc e1 e2
            go_wp2_with fail
            go_roundw
            case rel =>
              have hwd := HWD.out
              refine ⟨pos + wd, true, acc, rfl, by omega, by omega, ?_, hI2, hit2, hb2⟩
              unfold Hid QAt
              rw [if_pos rfl, hwd, show pos + 1 - 1 = pos by omega]
              exact ⟨by omega, HE2.out, HQ0.out⟩
            case measure =>
              simp only [World.iterPos, hit2, hit]
              omega
          · have z2 : ((c : Int) == 92) = false := by
              by_cases hl : bt u pos < 128
              · have := (HW2.out hl).1; simp; omega
              · have := HW3.out (by omega); simp; omega
            by_cases e3 : bt u pos < 32 ∨ 126 < bt u pos
            · rw [if_pos e3] at hQ
              have en : Hid (qmV u m = .tuple #[.string ⟨#[]⟩, .int .i64 0]) := qmV_none hQ.symm
              by_cases e4 : bt u pos < 32
              · have hcc := (HW2.out (by omega)).1
                have z3 : decide ((c : Int) < 32) = true := by simp; omega
                clear hQ hQ0 e1 e2 e3 e4 hcc
                go_wp2_with fail
                go_ret2
                exact ⟨by rw [en.out]; rfl, hb2⟩
              · have z3 : decide ((c : Int) < 32) = false := by
                  by_cases hl : bt u pos < 128
                  · have := (HW2.out hl).1; simp; omega
                  · have := HW3.out (by omega); simp; omega
                have z4 : decide (126 < (c : Int)) = true := by
                  by_cases hl : bt u pos < 128
                  · have := (HW2.out hl).1; simp; omega
                  · have := HW3.out (by omega); simp; omega
                clear hQ hQ0 e1 e2 e3 e4
                go_wp2_with fail
                go_ret2
                exact ⟨by rw [en.out]; rfl, hb2⟩
            · rw [if_neg e3, if_neg e2] at hQ
              have hcc := HW2.out (by omega)
              have z3 : decide ((c : Int) < 32) = false := by simp; omega
              have z4 : decide (126 < (c : Int)) = false := by simp; omega
              obtain ⟨x, hx⟩ : ∃ x : UInt8, x = UInt8.ofNat (bt u pos) := ⟨_, rfl⟩
              have hxc : (c : Int) = (x.toNat : Int) := by rw [hx, hcc.1]; simp; omega
              have hcv : (convert 21 5 (.int .i32 (c : Int))).run Tryd.prog (wr.iterAt (w.heap.size + 1) u (pos + wd)) = .ok (.int .u8 (x.toNat : Int)) (wr.iterAt (w.heap.size + 1) u (pos + wd)) := by
                rw [← hxc]
                have : (c : Int) < 256 := by omega
                simp [go_sem, convert, IntKind.wrap, IntKind.bits, IntKind.signed]
                omega
              rw [← hx] at hQ
              have HQ := hide hQ
              have HWD := hide hcc.2
              clear hQ hQ0 e1 e2 e3 hcc hx hxc
              go_wp2_with fail
              refine (put_byte w.heap.size w.heap.size acc x _ hI2 (by omega) hz2).mono ?_
              rintro e w6 ⟨rfl, h6, b6, o6⟩
              have hit6 := o6.iter hit2 (by omega)
              go_wp2_with fail
              go_roundw
              case rel =>
                have hwd := HWD.out
                refine ⟨pos + wd, false, acc ++ [x], rfl, by omega, by simp; omega, ?_, h6, hit6, hb2.trans b6⟩
                unfold Hid QAt
                rw [if_neg (by decide), hwd]
                exact HQ.out
              case measure =>
                simp only [World.iterPos, hit6, hit]
                omega
      · rw [if_pos rfl] at hQ
        obtain ⟨k1, k2, k3⟩ := hQ
        rw [quo, if_neg (by omega), if_neg (by rw [k2]; omega), if_neg (by omega), if_pos k2, if_neg (by omega), show pos - 1 + 1 = pos by omega, show pos - 1 + 2 = pos + 1 by omega] at k3
        rcases q : esc (bt u pos) with _ | x
        · rw [q] at k3
          have en : Hid (qmV u m = .tuple #[.string ⟨#[]⟩, .int .i64 0]) := qmV_none k3.symm
          have hec : escN c = 0 := by
            apply escN_none
            by_cases hl : bt u pos < 128
            · rw [(HW2.out hl).1]; exact q
            · have := HW3.out (by omega)
              unfold esc
              rw [if_neg (by omega), if_neg (by omega), if_neg (by omega), if_neg (by omega)]
          clear k3
          go_wp2_with fail
          refine (iEsc c _).mono ?_
          rintro e w5 ⟨rfl, hw5⟩
          obtain rfl := hw5.symm
          rw [hec]
          go_wp2_with fail
          go_ret2
          exact ⟨by rw [en.out]; rfl, hb2⟩
        · rw [q] at k3
          simp only at k3
          have hl : bt u pos < 128 := by
            unfold esc at q
            split at q
            · omega
            · split at q
              · omega
              · split at q
                · omega
                · split at q
                  · omega
                  · cases q
          obtain ⟨hcc, hwd⟩ := HW2.out hl
          have hec : escN c = x.toNat := by rw [hcc]; exact escN_some q
          have hx0 : ((x.toNat : Int) == 0) = false := by
            have : x ≠ 0 := by
              intro hx
              subst hx
              unfold esc at q
              split at q
              · cases q
              · split at q
                · cases q
                · split at q
                  · cases q
                  · split at q
                    · cases q
                    · cases q
            simp
            intro hh
            exact this (UInt8.toNat_inj.1 (by simpa using hh))
          have HWD := hide hwd
          have HK3 := hide k3
          clear k3 hcc hwd
          go_wp2_with fail
          refine (iEsc c _).mono ?_
          rintro e w5 ⟨rfl, hw5⟩
          obtain rfl := hw5.symm
          rw [hec]
          go_wp2_with fail
          refine (put_byte w.heap.size w.heap.size acc x _ hI2 (by omega) hz2).mono ?_
          rintro e w6 ⟨rfl, h6, b6, o6⟩
          have hit6 := o6.iter hit2 (by omega)
          go_wp2_with fail
          go_roundw
          case rel =>
            have hwd := HWD.out
            refine ⟨pos + wd, false, acc ++ [x], rfl, by omega, by simp; omega, ?_, h6, hit6, hb2.trans b6⟩
            unfold Hid QAt
            rw [if_neg (by decide), hwd]
            exact HK3.out
          case measure =>
            simp only [World.iterPos, hit6, hit]
            omega
    · have hnx : ∀ ty, (Instr.next (.pointer (some ⟨w.heap.size + 1, 0, none⟩)) true ty).run Tryd.prog wr = _ := fun ty => Lib.run_next_end_at wr (w.heap.size + 1) u pos ty hit hlt
      have en : Hid (qmV u m = .tuple #[.string ⟨#[]⟩, .int .i64 0]) := by
        have hQ := hq.out
        unfold QAt at hQ
        cases f
        · rw [if_neg (by decide), quo, if_pos (by omega)] at hQ
          exact qmV_none hQ.symm
        · rw [if_pos rfl] at hQ
          obtain ⟨k1, k2, k3⟩ := hQ
          rw [quo, if_neg (by omega), if_neg (by rw [k2]; omega), if_neg (by omega), if_pos k2, if_pos (by omega)] at k3
          exact qmV_none k3.symm
      clear hq
      go_wp2_with fail
      go_ret2
      exact ⟨by rw [en.out]; rfl, hb⟩

end Go.Proofs.YtjdncofdjabkiaaDoor

namespace Go.Proofs.YtjdncofdjabkiaaDoor
open Go.RowKit Go.Joins

theorem iQuote6 (w : World) : Calls Tryd.prog 59 #[.int .i64 6] w fun e w' => e = .returned (.int .i32 39) ∧ w' = w := by
  go_enter Tryd.func59, Tryd.ntmps59
  go_wp2
  go_ret
  exact ⟨rfl, rfl⟩
theorem iQuote7 (w : World) : Calls Tryd.prog 59 #[.int .i64 7] w fun e w' => e = .returned (.int .i32 34) ∧ w' = w := by
  go_enter Tryd.func59, Tryd.ntmps59
  go_wp2
  go_ret
  exact ⟨rfl, rfl⟩

theorem quo_last {u : ByteArray} {m : Nat} (i : Nat) (out t : List UInt8) (j : Nat) (h : quo u m i out = some (t, j)) : bt u (j - 1) = m := by
  rw [quo] at h
  split at h
  · cases h
  · split at h
    · rename_i hm; cases h; rw [Nat.add_sub_cancel]; exact hm
    · split at h
      · cases h
      · split at h
        · split at h
          · cases h
          · split at h
            · cases h
            · exact quo_last (i + 2) _ t j h
        · exact quo_last (i + 1) _ t j h
termination_by u.size - i
decreasing_by all_goals omega

set_option maxHeartbeats 2000000 in
set_option maxRecDepth 100000 in
theorem iQuoted6 {s p b mb nx ln ls ao cp n T w} (h : At s p b mb nx ln ls ao cp n T w) (hm : bt s p = 39) :
    Calls Tryd.prog 67 #[.pointer (some ⟨b, 0, none⟩), .int .i64 p, .int .i64 6] w (RP s p b mb ln ls T w) := by
  obtain ⟨c0, c1, c2, c3, c4, c5, fr, lt⟩ := id h.sc
  have hp := h.lt
  have hsz := h.sz
  have hst : blank s p = (p, true) := stop_of hp (by omega) (by omega) (by omega) (by omega)
  have hz : (s.extract (p + 1) s.size).size = s.size - (p + 1) := by rw [ByteArray.size_extract]; omega
  have hqe := quo_ext s 39 (p + 1) (by omega) (s.size - (p + 1)) 0 [] (by omega)
  rw [Nat.add_zero] at hqe
  have htk : tok s p = (match quo s 39 (p + 1) [] with | none => .bad 4 | some (t, j) => if bt s p = 39 ∧ t.length ≠ 1 then .bad 4 else .ok (if bt s p = 39 then 6 else 7) ⟨t.toArray⟩ (j - p)) := by
    unfold tok
    rw [if_neg (by rw [hm]; decide), if_neg (by rw [hm]; decide), if_pos (by omega), hm]
    rcases quo s 39 (p + 1) [] with _ | ⟨t, j⟩ <;> rfl
  rw [hqe] at htk
  have hM := fun w1 => iMeant (s.extract (p + 1) s.size) 39 w1 (by omega) (by omega)
  unfold qmV at hM
  have hline := h.line
  obtain ⟨p1, hp1⟩ : ∃ p1, p1 = p + 1 := ⟨_, rfl⟩
  rw [← hp1] at hM htk hz
  have hs1 : (p : Int) + 1 = (p1 : Int) := by omega
  have hl1 : (p1 : Int) ≤ s.size := by omega
  have hw1 : IntKind.i64.wrap (p1 : Int) = (p1 : Int) := by simp [IntKind.wrap, IntKind.bits, IntKind.signed]; omega
  have hd0 : w.drew.cell? ⟨b, 0, none⟩ = some (.string s) := c0
  have hbd0 : Below w.heap.size w w.drew := (Below.refl _ w).drew
  rcases q : quo (s.extract p1 s.size) 39 0 [] with _ | ⟨t, j⟩
  · rw [q] at htk hM
    have HE : Hid (∀ w1, Below w.heap.size w w1 → RP s p b mb ln ls T w (.returned (.int .i64 4)) w1) := fun w1 b1 => .inl ⟨4, rfl, h.same b1 (by decide) (lex_bad hp hst htk)⟩
    have HM := hide hM
    clear hM htk hqe hst q hm hp1
    go_enter Tryd.func67, Tryd.ntmps67
    go_wp2_with fail
    go_region_held3 (fun w' => w'.cell? ⟨b, 0, none⟩ = some (.string s)) (first | exact hd0 | exact k6) (first
      | (go_at_call 59; refine (iQuote6 _).mono ?_; rintro e w5 ⟨rfl, hw5⟩; obtain rfl : w.drew = w5 := hw5.symm)
      | (go_at_call 83; refine (HM.out w.drew).mono ?_; rintro e w6 ⟨rfl, b6⟩; have k6 : w6.cell? ⟨b, 0, none⟩ = some (.string s) := (b6.cell (p := ⟨b, 0, none⟩) lt).trans c0))
    all_goals
      go_wp2_with fail
      go_ret
      exact HE.out w6 (hbd0.trans b6)
  · have hgt := quo_gt _ _ _ _ q
    simp only [List.length_nil] at hgt
    rw [hz] at hgt
    rw [q] at htk hM
    simp only [Option.map] at htk
    obtain ⟨tb, htb⟩ : ∃ tb : ByteArray, tb = ⟨t.toArray⟩ := ⟨_, rfl⟩
    have htz : tb.size = t.length := by rw [htb]; simp [ByteArray.size]
    simp only [← htb] at htk hM
    rw [← htz] at htk
    obtain ⟨jj, hjj⟩ : ∃ jj, jj = p1 + j := ⟨_, rfl⟩
    have hs2 : (p1 : Int) + (j : Int) = (jj : Int) := by omega
    have hw2 : IntKind.i64.wrap (jj : Int) = (jj : Int) := by simp [IntKind.wrap, IntKind.bits, IntKind.signed]; omega
    have htz2 : (tb.size : Int) ≤ 1048576 := by omega
    have y0 : ((j : Int) == 0) = false := by simp; omega
    rw [← hjj] at htk
    have hpm : p + (jj - p) = jj := by omega
    have hbd : Bd s (p + (jj - p)) := by
      refine .inr (.inr ⟨by omega, ?_⟩)
      rw [hpm]
      have hlast := quo_last _ _ _ _ q
      rw [bt_ext s p1 _ (by omega)] at hlast
      rw [show jj - 1 = p1 + (j - 1) by omega, hlast]
      decide
    have HM := hide hM
    by_cases h1 : tb.size = 1
    · have y1 : ((tb.size : Int) != 1) = false := by simp; omega
      rw [if_neg (by simp [h1]), if_pos hm] at htk
      have hU := fun w1 (b1 : Below w.heap.size w w1) => iMeaning b s p jj mb nx ln ls (pc s p) ao cp n T 6 tb w1 (h.next b1).sc (h.next b1).tr (by have := h.tl; omega) h.col (pc_pos s p) (by have := pc_le s p; omega)
      have HF : Hid (∀ w1 w2, Below w.heap.size w w1 → Added b s mb jj ln ls (n + 1) (T ++ [⟨6, tb, ln, pc s p⟩]) w1 w2 → RP s p b mb ln ls T w (.returned (.int .i64 0)) w2) := by
        intro w1 w2 b1 hA
        obtain ⟨hA1, hA2⟩ := hA
        refine .inr ⟨rfl, rg_tok (n := n + 1) hp hst htk hbd ⟨?_, (KB.of (Nat.le_of_lt lt) b1).trans hA2⟩⟩
        obtain ⟨ao', cap', s1, t1⟩ := hA1
        rw [hpm]
        exact ⟨ao', cap', s1, by rw [← hline]; exact t1⟩
      have HU := hide hU
      clear hU hM htk hqe hst q hp1 hbd hgt hjj hpm htb htz hm h1
      go_enter Tryd.func67, Tryd.ntmps67
      go_wp2_with fail
      go_region_held3 (fun w' => w'.cell? ⟨b, 0, none⟩ = some (.string s)) (first | exact hd0 | exact k6) (first
        | (go_at_call 59; refine (iQuote6 _).mono ?_; rintro e w5 ⟨rfl, hw5⟩; obtain rfl : w.drew = w5 := hw5.symm)
        | (go_at_call 83; refine (HM.out w.drew).mono ?_; rintro e w6 ⟨rfl, b6⟩; have k6 : w6.cell? ⟨b, 0, none⟩ = some (.string s) := (b6.cell (p := ⟨b, 0, none⟩) lt).trans c0))
      all_goals
        go_wp2_with fail
        refine (HU.out w6 (hbd0.trans b6)).mono ?_
        rintro e w7 ⟨rfl, h7⟩
        go_wp2_with fail
        go_ret
        exact HF.out w6 w7 (hbd0.trans b6) h7
    · have y1 : ((tb.size : Int) != 1) = true := by simp; omega
      rw [if_pos ⟨hm, h1⟩] at htk
      have HE : Hid (∀ w1, Below w.heap.size w w1 → RP s p b mb ln ls T w (.returned (.int .i64 4)) w1) := fun w1 b1 => .inl ⟨4, rfl, h.same b1 (by decide) (lex_bad hp hst htk)⟩
      clear hM htk hqe hst q hm hp1 hbd hgt hjj hpm htb htz h1
      go_enter Tryd.func67, Tryd.ntmps67
      go_wp2_with fail
      go_region_held3 (fun w' => w'.cell? ⟨b, 0, none⟩ = some (.string s)) (first | exact hd0 | exact k6) (first
        | (go_at_call 59; refine (iQuote6 _).mono ?_; rintro e w5 ⟨rfl, hw5⟩; obtain rfl : w.drew = w5 := hw5.symm)
        | (go_at_call 83; refine (HM.out w.drew).mono ?_; rintro e w6 ⟨rfl, b6⟩; have k6 : w6.cell? ⟨b, 0, none⟩ = some (.string s) := (b6.cell (p := ⟨b, 0, none⟩) lt).trans c0))
      all_goals
        go_wp2_with fail
        go_ret
        exact HE.out w6 (hbd0.trans b6)

set_option maxHeartbeats 2000000 in
set_option maxRecDepth 100000 in
theorem iQuoted7 {s p b mb nx ln ls ao cp n T w} (h : At s p b mb nx ln ls ao cp n T w) (hm : bt s p = 34) :
    Calls Tryd.prog 67 #[.pointer (some ⟨b, 0, none⟩), .int .i64 p, .int .i64 7] w (RP s p b mb ln ls T w) := by
  obtain ⟨c0, c1, c2, c3, c4, c5, fr, lt⟩ := id h.sc
  have hp := h.lt
  have hsz := h.sz
  have hst : blank s p = (p, true) := stop_of hp (by omega) (by omega) (by omega) (by omega)
  have hz : (s.extract (p + 1) s.size).size = s.size - (p + 1) := by rw [ByteArray.size_extract]; omega
  have hqe := quo_ext s 34 (p + 1) (by omega) (s.size - (p + 1)) 0 [] (by omega)
  rw [Nat.add_zero] at hqe
  have htk : tok s p = (match quo s 34 (p + 1) [] with | none => .bad 4 | some (t, j) => if bt s p = 39 ∧ t.length ≠ 1 then .bad 4 else .ok (if bt s p = 39 then 6 else 7) ⟨t.toArray⟩ (j - p)) := by
    unfold tok
    rw [if_neg (by rw [hm]; decide), if_neg (by rw [hm]; decide), if_pos (by omega), hm]
    rcases quo s 34 (p + 1) [] with _ | ⟨t, j⟩ <;> rfl
  rw [hqe] at htk
  have hM := fun w1 => iMeant (s.extract (p + 1) s.size) 34 w1 (by omega) (by omega)
  unfold qmV at hM
  have hline := h.line
  obtain ⟨p1, hp1⟩ : ∃ p1, p1 = p + 1 := ⟨_, rfl⟩
  rw [← hp1] at hM htk hz
  have hs1 : (p : Int) + 1 = (p1 : Int) := by omega
  have hl1 : (p1 : Int) ≤ s.size := by omega
  have hw1 : IntKind.i64.wrap (p1 : Int) = (p1 : Int) := by simp [IntKind.wrap, IntKind.bits, IntKind.signed]; omega
  have hd0 : w.drew.cell? ⟨b, 0, none⟩ = some (.string s) := c0
  have hbd0 : Below w.heap.size w w.drew := (Below.refl _ w).drew
  rcases q : quo (s.extract p1 s.size) 34 0 [] with _ | ⟨t, j⟩
  · rw [q] at htk hM
    have HE : Hid (∀ w1, Below w.heap.size w w1 → RP s p b mb ln ls T w (.returned (.int .i64 4)) w1) := fun w1 b1 => .inl ⟨4, rfl, h.same b1 (by decide) (lex_bad hp hst htk)⟩
    have HM := hide hM
    clear hM htk hqe hst q hm hp1
    go_enter Tryd.func67, Tryd.ntmps67
    go_wp2_with fail
    go_region_held3 (fun w' => w'.cell? ⟨b, 0, none⟩ = some (.string s)) (first | exact hd0 | exact k6) (first
      | (go_at_call 59; refine (iQuote7 _).mono ?_; rintro e w5 ⟨rfl, hw5⟩; obtain rfl : w.drew = w5 := hw5.symm)
      | (go_at_call 83; refine (HM.out w.drew).mono ?_; rintro e w6 ⟨rfl, b6⟩; have k6 : w6.cell? ⟨b, 0, none⟩ = some (.string s) := (b6.cell (p := ⟨b, 0, none⟩) lt).trans c0))
    all_goals
      go_wp2_with fail
      go_ret
      exact HE.out w6 (hbd0.trans b6)
  · have hgt := quo_gt _ _ _ _ q
    simp only [List.length_nil] at hgt
    rw [hz] at hgt
    rw [q] at htk hM
    simp only [Option.map] at htk
    obtain ⟨tb, htb⟩ : ∃ tb : ByteArray, tb = ⟨t.toArray⟩ := ⟨_, rfl⟩
    have htz : tb.size = t.length := by rw [htb]; simp [ByteArray.size]
    simp only [← htb] at htk hM
    rw [← htz] at htk
    obtain ⟨jj, hjj⟩ : ∃ jj, jj = p1 + j := ⟨_, rfl⟩
    have hs2 : (p1 : Int) + (j : Int) = (jj : Int) := by omega
    have hw2 : IntKind.i64.wrap (jj : Int) = (jj : Int) := by simp [IntKind.wrap, IntKind.bits, IntKind.signed]; omega
    have htz2 : (tb.size : Int) ≤ 1048576 := by omega
    have y0 : ((j : Int) == 0) = false := by simp; omega
    rw [← hjj] at htk
    have hpm : p + (jj - p) = jj := by omega
    have hbd : Bd s (p + (jj - p)) := by
      refine .inr (.inr ⟨by omega, ?_⟩)
      rw [hpm]
      have hlast := quo_last _ _ _ _ q
      rw [bt_ext s p1 _ (by omega)] at hlast
      rw [show jj - 1 = p1 + (j - 1) by omega, hlast]
      decide
    have HM := hide hM
    have ychr : True := trivial
    clear ychr
    rw [if_neg (by omega), if_neg (by omega)] at htk
    have hU := fun w1 (b1 : Below w.heap.size w w1) => iMeaning b s p jj mb nx ln ls (pc s p) ao cp n T 7 tb w1 (h.next b1).sc (h.next b1).tr (by have := h.tl; omega) h.col (pc_pos s p) (by have := pc_le s p; omega)
    have HF : Hid (∀ w1 w2, Below w.heap.size w w1 → Added b s mb jj ln ls (n + 1) (T ++ [⟨7, tb, ln, pc s p⟩]) w1 w2 → RP s p b mb ln ls T w (.returned (.int .i64 0)) w2) := by
      intro w1 w2 b1 hA
      obtain ⟨hA1, hA2⟩ := hA
      refine .inr ⟨rfl, rg_tok (n := n + 1) hp hst htk hbd ⟨?_, (KB.of (Nat.le_of_lt lt) b1).trans hA2⟩⟩
      obtain ⟨ao', cap', s1, t1⟩ := hA1
      rw [hpm]
      exact ⟨ao', cap', s1, by rw [← hline]; exact t1⟩
    have HU := hide hU
    clear hU hM htk hqe hst q hp1 hbd hgt hjj hpm htb htz hm
    go_enter Tryd.func67, Tryd.ntmps67
    go_wp2_with fail
    go_region_held3 (fun w' => w'.cell? ⟨b, 0, none⟩ = some (.string s)) (first | exact hd0 | exact k6) (first
      | (go_at_call 59; refine (iQuote7 _).mono ?_; rintro e w5 ⟨rfl, hw5⟩; obtain rfl : w.drew = w5 := hw5.symm)
      | (go_at_call 83; refine (HM.out w.drew).mono ?_; rintro e w6 ⟨rfl, b6⟩; have k6 : w6.cell? ⟨b, 0, none⟩ = some (.string s) := (b6.cell (p := ⟨b, 0, none⟩) lt).trans c0))
    all_goals
      go_wp2_with fail
      refine (HU.out w6 (hbd0.trans b6)).mono ?_
      rintro e w7 ⟨rfl, h7⟩
      go_wp2_with fail
      go_ret
      exact HF.out w6 w7 (hbd0.trans b6) h7

end Go.Proofs.YtjdncofdjabkiaaDoor

