import Derived.Test.YtplhjcohkjomgaaDoorAE
import Derived.Test.YtplhjcohkjomgaaDoorM
namespace Go.Proofs.YtplhjcohkjomgaaDoor
open Go.RowKit Go.Joins

/-- Where the reading of quoted text stands: at a place, or behind a backslash. -/
def QAt (u : ByteArray) (m pos : Nat) (f : Bool) (acc : List UInt8) : Prop :=
  if f = true then 1 ≤ pos ∧ bt u (pos - 1) = 92 ∧ quo u m (pos - 1) acc = quo u m 0 [] else quo u m pos acc = quo u m 0 []

theorem put_byte (B b : Nat) (l : List UInt8) (c : UInt8) (w : World) (h : Lib.IsBuilderF 56 5 B b (Lib.byteCells l) w) (hl : l.length + 1 ≤ 70368744177664) (hBw : B ≤ w.heap.size) :
    Calls Tryd.prog 33 #[.pointer (some ⟨b, 0, none⟩), .int .u8 (c.toNat : Int)] w fun e w' => e = .returned .nilIface ∧ Lib.IsBuilderF 56 5 B b (Lib.byteCells (l ++ [c])) w' ∧ Below B w w' ∧ Lib.OthersKept 5 (some b) w w' := by
  refine (writeByte_any B b _ (c.toNat : Int) w h (by rw [Lib.byteCells_length]; omega) hBw).mono ?_
  rintro e w' ⟨rfl, hw⟩
  refine ⟨rfl, ?_, hw.2⟩
  rw [Lib.byteCells_append]
  exact .inr hw.1

set_option maxHeartbeats 2000000 in
set_option maxRecDepth 100000 in
theorem iMeant (u : ByteArray) (m : Nat) (w : World) (hu : u.size ≤ 1048576) (hm : m = 39 ∨ m = 34) :
    Calls Tryd.prog 83 #[.string u, .int .i32 m] w fun e w' => e = .returned (qmV u m) ∧ Below w.heap.size w w' := by
  go_enter Tryd.func83, Tryd.ntmps83
  go_wp2_with fail
  go_loopw [7, 8, 9, 10] (fun s7 _ _ _ wr => ∃ (pos : Nat) (f : Bool) (acc : List UInt8), s7 = .bool f ∧ pos ≤ u.size ∧ acc.length ≤ pos ∧ Hid (QAt u m pos f acc) ∧ Lib.IsBuilderF 56 5 w.heap.size w.heap.size (Lib.byteCells acc) wr ∧ wr.heap[w.heap.size + 1]? = some (.stringIter u pos) ∧ Below w.heap.size w wr) (fun _ _ _ _ wr => u.size - wr.iterPos (w.heap.size + 1))
  case atStart =>
    refine ⟨0, false, [], rfl, Nat.zero_le _, by simp, by unfold Hid QAt; rw [if_neg (by decide)], (Lib.IsBuilderF.of (Lib.fresh_isBuilder 56 5 w)).alloc _, ?_, ((Below.refl _ w).alloc (Nat.le_refl _) _).alloc (by simp) _⟩
    have := World.iter_heap (w.alloc (.cells #[.pointer none, .slice none 0 0] 56)) u 0
    simpa using this
  case round =>
    obtain ⟨pos, f, acc, rfl, g1, g2, hq, hI, hit, hb⟩ := hrel
    have hzw : w.heap.size + 1 < wr.heap.size := (Array.getElem?_eq_some_iff.1 hit).1
    by_cases hlt : pos < u.size
    · have hnx : ∀ ty, (Instr.next (.pointer (some ⟨w.heap.size + 1, 0, none⟩)) true ty).run Tryd.prog wr = _ := fun ty => Lib.run_next_any_at wr (w.heap.size + 1) u pos ty hit hlt
      have hD : 1 ≤ (Utf8.decode u pos).2 ∧ (bt u pos < 128 → (Utf8.decode u pos).1 = bt u pos ∧ (Utf8.decode u pos).2 = 1) ∧ (128 ≤ bt u pos → 128 ≤ (Utf8.decode u pos).1) ∧ (Utf8.decode u pos).1 ≤ 2147483647 := by
        by_cases hl : bt u pos < 128
        · rw [dec_low hlt hl]
          exact ⟨Nat.le_refl _, fun _ => ⟨rfl, rfl⟩, fun hh => by omega, by simp only; omega⟩
        · obtain ⟨h1, h2, h3, h4, h5⟩ := dec_high hlt (by omega)
          exact ⟨h3, fun hh => by omega, fun _ => h1, by omega⟩
      obtain ⟨w1, w2, w3, w4⟩ := hD
      generalize (Utf8.decode u pos).1 = c at *
      generalize (Utf8.decode u pos).2 = wd at *
      have hit2 := Lib.iterAt_heap wr (w.heap.size + 1) u pos (pos + wd) hit
      have hI2 := hI.iterAt hit (pos + wd)
      have hb2 := Lib.below_iterAt hb (k := w.heap.size + 1) (by omega) u (pos + wd)
      have hz2 : w.heap.size ≤ (wr.iterAt (w.heap.size + 1) u (pos + wd)).heap.size := by rw [Lib.iterAt_size]; omega
      have HW2 := hide w2
      have HW3 := hide w3
      have hQ := hq.out
      unfold QAt at hQ
      clear w2 w3
      cases f
      · rw [if_neg (by decide)] at hQ
        have hQ0 := hQ
        rw [quo, if_neg (by omega)] at hQ
        by_cases e1 : bt u pos = m
        · rw [if_pos e1] at hQ
          have en : Hid (qmV u m = .tuple #[.string ⟨acc.toArray⟩, .int .i64 ((pos + 1 : Nat) : Int)]) := qmV_some hQ.symm
          have hcc := (HW2.out (by omega)).1
          have z1 : ((c : Int) == (m : Int)) = true := by simp; omega
          clear hQ hQ0 hcc e1
          go_wp2_with fail
          refine (Tryd.Builder_String_any_k w.heap.size w.heap.size acc _ hI2 hz2).mono ?_
          rintro e w6 ⟨rfl, h6, b6, o6⟩
          go_wp2_with fail
          go_ret2
          exact ⟨by rw [en.out]; exact congrArg Ending.returned (by simp), hb2.trans b6⟩
        · rw [if_neg e1] at hQ
          have z1 : ((c : Int) == (m : Int)) = false := by
            by_cases hl : bt u pos < 128
            · have := (HW2.out hl).1; simp; omega
            · have := HW3.out (by omega); simp; omega
          by_cases e2 : bt u pos = 92
          · have hcc := HW2.out (by omega)
            have z2 : ((c : Int) == 92) = true := by simp; omega
            have HWD := hide hcc.2
            have HQ0 := hide hQ0
            have HE2 := hide e2
            clear hQ hQ0 hcc e1 e2
            go_wp2_with fail
            go_roundw
            case rel =>
              have hwd := HWD.out
              refine ⟨pos + wd, true, acc, rfl, by omega, by omega, ?_, hI2, hit2, hb2⟩
              unfold Hid QAt
              rw [if_pos rfl, hwd, show pos + 1 - 1 = pos by omega]
              exact ⟨by omega, HE2.out, HQ0.out⟩
            case measure =>
              simp only [World.iterPos, hit2, hit]
              omega
          · have z2 : ((c : Int) == 92) = false := by
              by_cases hl : bt u pos < 128
              · have := (HW2.out hl).1; simp; omega
              · have := HW3.out (by omega); simp; omega
            by_cases e3 : bt u pos < 32 ∨ 126 < bt u pos
            · rw [if_pos e3] at hQ
              have en : Hid (qmV u m = .tuple #[.string ⟨#[]⟩, .int .i64 0]) := qmV_none hQ.symm
              by_cases e4 : bt u pos < 32
              · have hcc := (HW2.out (by omega)).1
                have z3 : decide ((c : Int) < 32) = true := by simp; omega
                clear hQ hQ0 e1 e2 e3 e4 hcc
                go_wp2_with fail
                go_ret2
                exact ⟨by rw [en.out]; rfl, hb2⟩
              · have z3 : decide ((c : Int) < 32) = false := by
                  by_cases hl : bt u pos < 128
                  · have := (HW2.out hl).1; simp; omega
                  · have := HW3.out (by omega); simp; omega
                have z4 : decide (126 < (c : Int)) = true := by
                  by_cases hl : bt u pos < 128
                  · have := (HW2.out hl).1; simp; omega
                  · have := HW3.out (by omega); simp; omega
                clear hQ hQ0 e1 e2 e3 e4
                go_wp2_with fail
                go_ret2
                exact ⟨by rw [en.out]; rfl, hb2⟩
            · rw [if_neg e3, if_neg e2] at hQ
              have hcc := HW2.out (by omega)
              have z3 : decide ((c : Int) < 32) = false := by simp; omega
              have z4 : decide (126 < (c : Int)) = false := by simp; omega
              obtain ⟨x, hx⟩ : ∃ x : UInt8, x = UInt8.ofNat (bt u pos) := ⟨_, rfl⟩
              have hxc : (c : Int) = (x.toNat : Int) := by rw [hx, hcc.1]; simp; omega
              have hcv : (convert 21 5 (.int .i32 (c : Int))).run Tryd.prog (wr.iterAt (w.heap.size + 1) u (pos + wd)) = .ok (.int .u8 (x.toNat : Int)) (wr.iterAt (w.heap.size + 1) u (pos + wd)) := by
                rw [← hxc]
                have : (c : Int) < 256 := by omega
                simp [go_sem, convert, IntKind.wrap, IntKind.bits, IntKind.signed]
                omega
              rw [← hx] at hQ
              have HQ := hide hQ
              have HWD := hide hcc.2
              clear hQ hQ0 e1 e2 e3 hcc hx hxc
              go_wp2_with fail
              refine (put_byte w.heap.size w.heap.size acc x _ hI2 (by omega) hz2).mono ?_
              rintro e w6 ⟨rfl, h6, b6, o6⟩
              have hit6 := o6.iter hit2 (by omega)
              go_wp2_with fail
              go_roundw
              case rel =>
                have hwd := HWD.out
                refine ⟨pos + wd, false, acc ++ [x], rfl, by omega, by simp; omega, ?_, h6, hit6, hb2.trans b6⟩
                unfold Hid QAt
                rw [if_neg (by decide), hwd]
                exact HQ.out
              case measure =>
                simp only [World.iterPos, hit6, hit]
                omega
      · rw [if_pos rfl] at hQ
        obtain ⟨k1, k2, k3⟩ := hQ
        rw [quo, if_neg (by omega), if_neg (by rw [k2]; omega), if_neg (by omega), if_pos k2, if_neg (by omega), show pos - 1 + 1 = pos by omega, show pos - 1 + 2 = pos + 1 by omega] at k3
        rcases q : esc (bt u pos) with _ | x
        · rw [q] at k3
          have en : Hid (qmV u m = .tuple #[.string ⟨#[]⟩, .int .i64 0]) := qmV_none k3.symm
          have hec : escN c = 0 := by
            apply escN_none
            by_cases hl : bt u pos < 128
            · rw [(HW2.out hl).1]; exact q
            · have := HW3.out (by omega)
              unfold esc
              rw [if_neg (by omega), if_neg (by omega), if_neg (by omega), if_neg (by omega)]
          clear k3
          go_wp2_with fail
          refine (iEsc c _).mono ?_
          rintro e w5 ⟨rfl, hw5⟩
          obtain rfl := hw5.symm
          rw [hec]
          go_wp2_with fail
          go_ret2
          exact ⟨by rw [en.out]; rfl, hb2⟩
        · rw [q] at k3
          simp only at k3
          have hl : bt u pos < 128 := by
            unfold esc at q
            split at q
            · omega
            · split at q
              · omega
              · split at q
                · omega
                · split at q
                  · omega
                  · cases q
          obtain ⟨hcc, hwd⟩ := HW2.out hl
          have hec : escN c = x.toNat := by rw [hcc]; exact escN_some q
          have hx0 : ((x.toNat : Int) == 0) = false := by
            have : x ≠ 0 := by
              intro hx
              subst hx
              unfold esc at q
              split at q
              · cases q
              · split at q
                · cases q
                · split at q
                  · cases q
                  · split at q
                    · cases q
                    · cases q
            simp
            intro hh
            exact this (UInt8.toNat_inj.1 (by simpa using hh))
          have HWD := hide hwd
          have HK3 := hide k3
          clear k3 hcc hwd
          go_wp2_with fail
          refine (iEsc c _).mono ?_
          rintro e w5 ⟨rfl, hw5⟩
          obtain rfl := hw5.symm
          rw [hec]
          go_wp2_with fail
          refine (put_byte w.heap.size w.heap.size acc x _ hI2 (by omega) hz2).mono ?_
          rintro e w6 ⟨rfl, h6, b6, o6⟩
          have hit6 := o6.iter hit2 (by omega)
          go_wp2_with fail
          go_roundw
          case rel =>
            have hwd := HWD.out
            refine ⟨pos + wd, false, acc ++ [x], rfl, by omega, by simp; omega, ?_, h6, hit6, hb2.trans b6⟩
            unfold Hid QAt
            rw [if_neg (by decide), hwd]
            exact HK3.out
          case measure =>
            simp only [World.iterPos, hit6, hit]
            omega
    · have hnx : ∀ ty, (Instr.next (.pointer (some ⟨w.heap.size + 1, 0, none⟩)) true ty).run Tryd.prog wr = _ := fun ty => Lib.run_next_end_at wr (w.heap.size + 1) u pos ty hit hlt
      have en : Hid (qmV u m = .tuple #[.string ⟨#[]⟩, .int .i64 0]) := by
        have hQ := hq.out
        unfold QAt at hQ
        cases f
        · rw [if_neg (by decide), quo, if_pos (by omega)] at hQ
          exact qmV_none hQ.symm
        · rw [if_pos rfl] at hQ
          obtain ⟨k1, k2, k3⟩ := hQ
          rw [quo, if_neg (by omega), if_neg (by rw [k2]; omega), if_neg (by omega), if_pos k2, if_pos (by omega)] at k3
          exact qmV_none k3.symm
      clear hq
      go_wp2_with fail
      go_ret2
      exact ⟨by rw [en.out]; rfl, hb⟩

end Go.Proofs.YtplhjcohkjomgaaDoor
