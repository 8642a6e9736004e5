import Derived.Test.YtjfoagmenehapaaGreatDoorQ06
namespace Go.Proofs.YtjfoagmenehapaaGreatDoor
open Go.RowKit Go.Joins

theorem BR.empty (w : World) : BR w.heap.size (w.alloc (.cells #[] 5)) (some ⟨w.heap.size, 0, none⟩) 0 0 [] :=
  ⟨rfl, rfl, .inr ⟨w.heap.size, 0, #[], (0, 0), rfl, Nat.le_refl _, heap_new w _, by simp, Nat.le_refl _, by unfold maxLen; omega, by simp, by simp [Lib.byteCells]⟩⟩

theorem esc_in (c : Nat) : inL c ⟨#[110, 92, 39, 34]⟩ = (esc c).isSome := by
  rw [show (#[110, 92, 39, 34] : Array UInt8) = [110, 92, 39, 34].toArray from rfl, inL_list]
  unfold esc
  by_cases h1 : c = 110
  · subst h1; rfl
  · by_cases h2 : c = 92
    · subst h2; rfl
    · by_cases h3 : c = 39
      · subst h3; rfl
      · by_cases h4 : c = 34
        · subst h4; rfl
        · simp [h1, h2, h3, h4]

theorem ofNat_bt {s : ByteArray} {i : Nat} (h : i < s.size) : UInt8.ofNat (bt s i) = s[i] := by rw [← bt_in h, UInt8.ofNat_toNat]

/-- What the model tells of what stands between marks. -/
def quoV (s : ByteArray) (m a : Nat) : Value := match quo s m (a + 1) [] with
  | none => .tuple #[.string ⟨#[]⟩, .int .i64 (-1)]
  | some (t, j) => .tuple #[.string ⟨t.toArray⟩, .int .i64 ((j : Int) - a)]

theorem quoV_none {s : ByteArray} {m a : Nat} (h : quo s m (a + 1) [] = none) : quoV s m a = .tuple #[.string ⟨#[]⟩, .int .i64 (-1)] := by unfold quoV; rw [h]
theorem quoV_some {s : ByteArray} {m a j : Nat} {t : List UInt8} (h : quo s m (a + 1) [] = some (t, j)) : quoV s m a = .tuple #[.string ⟨t.toArray⟩, .int .i64 ((j : Int) - a)] := by unfold quoV; rw [h]

theorem esc_val {c : Nat} {e : UInt8} (h : esc c = some e) (hc : c ≠ 110) : (e.toNat : Int) = c ∧ c < 256 := by
  unfold esc at h
  rw [if_neg hc] at h
  split at h
  · cases h; rename_i h; subst h; exact ⟨rfl, by omega⟩
  · split at h
    · cases h; rename_i h; subst h; exact ⟨rfl, by omega⟩
    · split at h
      · cases h; rename_i h; subst h; exact ⟨rfl, by omega⟩
      · cases h

set_option maxHeartbeats 4000000 in
set_option maxRecDepth 100000 in
theorem mQuoted (b : Nat) (s : ByteArray) (a m : Nat) (ln cl : Int) (x4 x5 x6 x7 : Value) (w : World) (h : Lx w b s a ln cl x4 x5 x6 x7) (hs : s.size ≤ 1048576) (ha : a < s.size) (hm : m = 39 ∨ m = 34) :
    Calls Tryz.prog 137 #[.pointer (some ⟨b, 0, none⟩), .int .u8 m] w fun e w' => e = .returned (quoV s m a) ∧ Below w.heap.size w w' := by
  obtain ⟨c0, c1, c2, c3, c4, c5, c6, c7, fr, lt⟩ := id h
  have hlx : ∀ w', Below w.heap.size w w' → w'.cell? ⟨b, 0, none⟩ = some (.string s) ∧ w'.cell? ⟨b, 1, none⟩ = some (.int .i64 a) := fun w' hb =>
    ⟨(hb.cell (p := ⟨b, 0, none⟩) lt).trans c0, (hb.cell (p := ⟨b, 1, none⟩) lt).trans c1⟩
  have HLX := hide hlx
  have hm' : (m : Int) ≤ 255 := by omega
  clear hlx
  have ca0 := ((below_alloc1 w (.cells #[] 5)).cell (p := ⟨b, 1, none⟩) lt).trans c1
  go_enter Tryz.func137, Tryz.ntmps137
  go_wp2_with fail
  go_loopw [6, 7, 8] (fun s6 s7 _ wr => ∃ (i n cp : Nat) (ao : Option Addr) (out : List UInt8), s6 = .slice ao n cp ∧ s7 = .int .i64 i ∧ a + 1 ≤ i ∧ i ≤ s.size ∧ BR w.heap.size wr ao cp n out ∧ out.length ≤ i ∧ Hid (quo s m i out = quo s m (a + 1) []) ∧ Below w.heap.size w wr) (fun _ s7 _ _ => s.size - (intOf s7).toNat)
  case atStart => exact ⟨a + 1, 0, 0, _, [], rfl, by go_num, Nat.le_refl _, by omega, BR.empty w, by simp, rfl, below_alloc1 _ _⟩
  case round =>
    clear ca0 c0 c1 c2 c3 c4 c5 c6 c7 fr
    obtain ⟨i, n, cp, ao, out, rfl, rfl, h1, h2, hR, hol, hq, hb⟩ := hrel
    obtain ⟨c0, c1⟩ := HLX.out wr hb
    have hzw := hb.size
    by_cases hlt : i < s.size
    · have hbt := bt_in hlt
      have hbl := bt_le s i
      have hQ := hq.out
      rw [quo, if_neg (by omega)] at hQ
      by_cases e1 : bt s i = m
      · rw [if_pos e1] at hQ
        have en : Hid (quoV s m a = .tuple #[.string ⟨out.toArray⟩, .int .i64 (((i + 1 : Nat) : Int) - a)]) := quoV_some hQ.symm
        have z1 : ((s[i].toNat : Int) == (m : Int)) = true := by rw [hbt, e1]; simp
        have hcv : (convert 114 9 (.slice ao n cp)).run Tryz.prog wr.drew = .ok (.string ⟨out.toArray⟩) wr.drew := BR.text (B := w.heap.size) (W := wr.drew) hR
        have hai : (a : Int) ≤ i := by omega
        have hi63 : (i : Int) ≤ 1048576 := by omega
        clear hbt hQ e1
        go_wp2_with fail
        go_region
        all_goals
          go_wp2_with fail
          go_ret2
          exact ⟨by rw [en.out]; exact congrArg Ending.returned (by simp), hb.drew⟩
      · rw [if_neg e1] at hQ
        have z1 : ((s[i].toNat : Int) == (m : Int)) = false := by rw [hbt]; simp; omega
        by_cases e2 : bt s i < 32 ∨ 126 < bt s i
        · rw [if_pos e2] at hQ
          have en : Hid (quoV s m a = .tuple #[.string ⟨#[]⟩, .int .i64 (-1)]) := quoV_none hQ.symm
          by_cases e3 : bt s i < 32
          · have z2 : decide ((s[i].toNat : Int) < 32) = true := by rw [hbt]; simp; omega
            clear hbt hQ e1 e2 e3
            go_wp2_with fail
            go_ret2
            exact ⟨by rw [en.out]; rfl, hb⟩
          · have z2 : decide ((s[i].toNat : Int) < 32) = false := by rw [hbt]; simp; omega
            have z3 : decide (126 < (s[i].toNat : Int)) = true := by rw [hbt]; simp; omega
            clear hbt hQ e1 e2 e3
            go_wp2_with fail
            go_ret2
            exact ⟨by rw [en.out]; rfl, hb⟩
        · rw [if_neg e2] at hQ
          have z2 : decide ((s[i].toNat : Int) < 32) = false := by rw [hbt]; simp; omega
          have z3 : decide (126 < (s[i].toNat : Int)) = false := by rw [hbt]; simp; omega
          by_cases e4 : bt s i = 92
          · rw [if_pos e4] at hQ
            have z4 : ((s[i].toNat : Int) == 92) = true := by rw [hbt, e4]; rfl
            by_cases e5 : s.size ≤ i + 1
            · rw [if_pos e5] at hQ
              have en : Hid (quoV s m a = .tuple #[.string ⟨#[]⟩, .int .i64 (-1)]) := quoV_none hQ.symm
              have z5 : ((i : Int) + 1 == (s.size : Int)) = true := by simp; omega
              clear hbt hQ e1 e2 e4 e5
              go_wp2_with fail
              go_ret2
              exact ⟨by rw [en.out]; rfl, hb⟩
            · rw [if_neg e5] at hQ
              have hlt2 : i + 1 < s.size := by omega
              have hbt2 := bt_in hlt2
              obtain ⟨j, hj⟩ : ∃ j, j = i + 1 := ⟨_, rfl⟩
              rw [← hj] at hQ hlt2
              have hbt2 := bt_in hlt2
              have hj' : (i : Int) + 1 = (j : Int) := by omega
              have hj2 : Hid (i + 2 = j + 1) := by unfold Hid; omega
              have z5 : ((j : Int) == (s.size : Int)) = false := by simp; omega
              have hjl : (j : Int) < s.size := by omega
              have hji : i < j := by omega
              have hja : a + 1 ≤ j := by omega
              have hol2 : out.length + 1 ≤ j := by omega
              have HB2 := hide hbt2
              have hE := esc_in (bt s j)
              clear hbt hbt2 e1 e2 e4 e5 hj
              rcases e6 : esc (bt s j) with _ | e
              · rw [e6] at hQ hE
                have en : Hid (quoV s m a = .tuple #[.string ⟨#[]⟩, .int .i64 (-1)]) := quoV_none hQ.symm
                clear hQ
                go_wp2_with fail
                refine (mIn (s[j].toNat) _ _ (by decide)).mono ?_
                rintro e w1 ⟨rfl, rfl⟩
                rw [HB2.out, hE]
                go_wp2_with fail
                go_ret2
                exact ⟨by rw [en.out]; rfl, hb⟩
              · rw [e6] at hQ hE
                simp only at hQ
                have HQ := hide hQ
                have HE6 := hide e6
                clear hQ e6
                by_cases e7 : bt s j = 110
                · have z7 : ((s[j].toNat : Int) == 110) = true := by rw [HB2.out, e7]; rfl
                  have he : e = 10 := by have := HE6.out; rw [e7] at this; simpa [esc] using this.symm
                  subst he
                  clear e7
                  go_wp2_with (first | (at_builtin; refine push_step rfl _ _ rfl w.heap.size _ ao cp n out [10] 1 rfl ⟨wr.heap.size, 0, none⟩ rfl rfl (by simp; omega) (hR.alloc _) (new_bytes wr [10] _ 5 rfl) (by simp; omega) ?_; intro ao6 cp6 n6 W6 hR6 bb6; replace bb6 := ((BK.refl w.heap.size wr).alloc hzw _).trans bb6) | (go_at_call 150; refine (mIn (s[j].toNat) _ _ (by decide)).mono ?_; rintro e w1 ⟨rfl, hw1⟩; obtain rfl : wr = w1 := hw1.symm; rw [HB2.out, hE]))
                  go_roundw
                  case rel => exact ⟨j + 1, n6, cp6, ao6, out ++ [10], rfl, by go_num, by omega, by omega, hR6, by simp; omega, by have := HQ.out; rw [hj2.out] at this; exact this, hb.trans bb6.1⟩
                  case measure => simp [intOf]; omega
                · have z7 : ((s[j].toNat : Int) == 110) = false := by rw [HB2.out]; simp; omega
                  have he := (esc_val HE6.out e7).1
                  have HN : Hid (Lib.byteCells [e] = [.int .u8 (s[j].toNat : Int)]) := by
                    unfold Hid
                    rw [HB2.out, ← he]
                    rfl
                  clear e7 he
                  go_wp2_with (first | (at_builtin; refine push_step rfl _ _ rfl w.heap.size _ ao cp n out [e] 1 rfl ⟨wr.heap.size, 0, none⟩ rfl rfl (by simp; omega) (hR.alloc _) (new_bytes wr [e] _ 5 (by rw [HN.out])) (by simp; omega) ?_; intro ao6 cp6 n6 W6 hR6 bb6; replace bb6 := ((BK.refl w.heap.size wr).alloc hzw _).trans bb6) | (go_at_call 150; refine (mIn (s[j].toNat) _ _ (by decide)).mono ?_; rintro e w1 ⟨rfl, hw1⟩; obtain rfl : wr = w1 := hw1.symm; rw [HB2.out, hE]))
                  go_roundw
                  case rel => exact ⟨j + 1, n6, cp6, ao6, out ++ [e], rfl, by go_num, by omega, by omega, hR6, by simp; omega, by have := HQ.out; rw [hj2.out] at this; exact this, hb.trans bb6.1⟩
                  case measure => simp [intOf]; omega
          · rw [if_neg e4] at hQ
            have z4 : ((s[i].toNat : Int) == 92) = false := by rw [hbt]; simp; omega
            rw [ofNat_bt hlt] at hQ
            have HQ := hide hQ
            clear hbt hQ e1 e2 e4
            go_wp2_with (at_builtin; refine push_step rfl _ _ rfl w.heap.size _ ao cp n out [s[i]] 1 rfl ⟨wr.heap.size, 0, none⟩ rfl rfl (by simp; omega) (hR.alloc _) (new_bytes wr [s[i]] _ 5 rfl) (by simp; omega) ?_; intro ao6 cp6 n6 W6 hR6 bb6; replace bb6 := ((BK.refl w.heap.size wr).alloc hzw _).trans bb6)
            go_roundw
            case rel => exact ⟨i + 1, n6, cp6, ao6, out ++ [s[i]], rfl, by go_num, by omega, by omega, hR6, by simp; omega, HQ, hb.trans bb6.1⟩
            case measure => simp [intOf]; omega
    · have en : Hid (quoV s m a = .tuple #[.string ⟨#[]⟩, .int .i64 (-1)]) := by
        have := hq.out
        rw [quo, if_pos (by omega)] at this
        exact quoV_none this.symm
      go_wp2_with fail
      go_ret2
      exact ⟨by rw [en.out]; rfl, hb⟩

end Go.Proofs.YtjfoagmenehapaaGreatDoor

namespace Go.Proofs.YtjfoagmenehapaaGreatDoor
open Go.RowKit Go.Joins

/-- A byte that may stand in a text. -/
def pr (c : Nat) : Bool := c == 10 || (decide (32 ≤ c) && decide (c ≤ 126))
def okT (s : ByteArray) : Bool := (List.range s.size).all (fun i => pr (bt s i))

set_option maxHeartbeats 1000000 in
set_option maxRecDepth 100000 in
theorem mBytes (s : ByteArray) (w : World) (hs : s.size ≤ 1048576) : Calls Tryz.prog 95 #[.string s] w fun e w' => e = .returned (.bool (okT s)) ∧ w' = w := by
  go_enter Tryz.func95, Tryz.ntmps95
  go_wp2_with fail
  go_loop [3] (fun i => ∃ j : Nat, j ≤ s.size ∧ i = .int .i64 j ∧ Hid (∀ k, k < j → pr (bt s k) = true)) (fun i => s.size - (intOf i).toNat)
  case atStart => exact ⟨0, Nat.zero_le _, rfl, fun k hk => by omega⟩
  case round =>
    obtain ⟨j, hj, rfl, hall⟩ := hrel
    by_cases hlt : j < s.size
    · have hlt' : (j : Int) < s.size := by omega
      have hb := bt_in hlt
      have hle := bt_le s j
      rcases q : pr (bt s j) with _ | _
      · have HE : Hid (okT s = false) := by
          unfold Hid okT
          rw [List.all_eq_false]
          exact ⟨j, List.mem_range.2 hlt, by rw [q]; decide⟩
        simp [pr] at q
        have h1 : ((bt s j : Int) == 10) = false := by simp; omega
        by_cases h2 : bt s j < 32
        · have h2' : (bt s j : Int) < 32 := by omega
          go_wp2_with fail
          go_ret
          exact ⟨by rw [HE.out]; rfl, rfl⟩
        · have h2' : ¬ (bt s j : Int) < 32 := by omega
          have h3 : 126 < (bt s j : Int) := by omega
          go_wp2_with fail
          go_ret
          exact ⟨by rw [HE.out]; rfl, rfl⟩
      · have HQ := hide q
        simp [pr] at q
        by_cases h1 : bt s j = 10
        · rw [h1] at hb
          clear h1 q hle
          go_wp2_with fail
          go_round
          case rel => exact ⟨j + 1, by omega, by go_num, fun k hk => by rcases Nat.lt_or_eq_of_le (Nat.le_of_lt_succ hk) with h | h; exact hall.out k h; rw [h]; exact HQ.out⟩
          case measure => simp [intOf]; omega
        · have h1' : ((bt s j : Int) == 10) = false := by simp; omega
          have h2 : ¬ (bt s j : Int) < 32 := by omega
          have h3 : ¬ 126 < (bt s j : Int) := by omega
          go_wp2_with fail
          go_round
          case rel => exact ⟨j + 1, by omega, by go_num, fun k hk => by rcases Nat.lt_or_eq_of_le (Nat.le_of_lt_succ hk) with h | h; exact hall.out k h; rw [h]; exact HQ.out⟩
          case measure => simp [intOf]; omega
    · have hlt' : ¬ (j : Int) < s.size := by omega
      have HE : Hid (okT s = true) := by
        unfold Hid okT
        rw [List.all_eq_true]
        exact fun i hi => hall.out i (by have := List.mem_range.1 hi; omega)
      go_wp2_with fail
      go_ret
      exact ⟨by rw [HE.out]; rfl, rfl⟩

end Go.Proofs.YtjfoagmenehapaaGreatDoor

namespace Go.Proofs.YtjfoagmenehapaaGreatDoor
open Go.RowKit Go.Joins

/-- A byte as it is written between marks. -/
def escB (m b : UInt8) : List UInt8 := if b.toNat = 10 then [92, 110] else if b.toNat = 92 ∨ b = m then [92, b] else [b]
def escT (m : UInt8) (s : ByteArray) : List UInt8 := m :: s.data.toList.flatMap (escB m) ++ [m]

theorem BR.one (w : World) (m : UInt8) : BR w.heap.size (w.alloc (.cells #[.int .u8 m.toNat] 5)) (some ⟨w.heap.size, 0, none⟩) 1 1 [m] :=
  ⟨rfl, rfl, .inr ⟨w.heap.size, 1, #[.int .u8 m.toNat], (0, 0), rfl, Nat.le_refl _, heap_new w _, by simp, Nat.le_refl _, by unfold maxLen; omega, by simp, by simp [Lib.byteCells]⟩⟩

theorem drop_at {s : ByteArray} {i : Nat} (h : i < s.size) : s.data.toList.drop i = s[i] :: s.data.toList.drop (i + 1) := by
  have h' : i < s.data.toList.length := by simpa using h
  rw [List.drop_eq_getElem_cons h']
  congr 1

set_option maxHeartbeats 2000000 in
set_option maxRecDepth 100000 in
theorem mEscape (s : ByteArray) (m : UInt8) (w : World) (hs : s.size ≤ 1048576) : Calls Tryz.prog 108 #[.string s, .int .u8 m.toNat] w fun e w' => e = .returned (.string ⟨(escT m s).toArray⟩) ∧ Below w.heap.size w w' := by
  go_enter Tryz.func108, Tryz.ntmps108
  go_wp2_with fail
  go_loopw [5, 6, 21, 29] (fun s5 s6 _ _ wr => ∃ (i n cp : Nat) (ao : Option Addr) (out : List UInt8), s5 = .slice ao n cp ∧ s6 = .int .i64 i ∧ i ≤ s.size ∧ BR w.heap.size wr ao cp n out ∧ out.length ≤ 2 * i + 1 ∧ Hid (out ++ (s.data.toList.drop i).flatMap (escB m) ++ [m] = escT m s) ∧ Below w.heap.size w wr) (fun _ s6 _ _ _ => s.size - (intOf s6).toNat)
  case atStart => exact ⟨0, 1, 1, _, [m], rfl, rfl, Nat.zero_le _, BR.one w m, by simp, by unfold Hid escT; simp, below_alloc1 _ _⟩
  case round =>
    obtain ⟨i, n, cp, ao, out, rfl, rfl, h1, hR, hol, hq, hb⟩ := hrel
    have hzw := hb.size
    by_cases hlt : i < s.size
    · have hlt' : (i : Int) < s.size := by omega
      have hQ := hq.out
      rw [drop_at hlt, List.flatMap_cons, ← List.append_assoc] at hQ
      by_cases e1 : s[i].toNat = 10
      · have hE : escB m s[i] = [92, 110] := by unfold escB; rw [if_pos e1]
        rw [hE] at hQ
        have HQ := hide hQ
        clear hQ hE
        go_wp2_with (at_builtin; refine push_step rfl _ _ rfl w.heap.size _ ao cp n out [92, 110] 2 rfl ⟨wr.heap.size, 0, none⟩ rfl rfl (by simp; omega) (hR.alloc _) (new_bytes wr [92, 110] _ 5 rfl) (by simp; omega) ?_; intro ao6 cp6 n6 W6 hR6 bb6; replace bb6 := ((BK.refl w.heap.size wr).alloc hzw _).trans bb6)
        go_roundw
        case rel => exact ⟨i + 1, n6, cp6, ao6, out ++ [92, 110], rfl, by go_num, by omega, hR6, by simp; omega, HQ, hb.trans bb6.1⟩
        case measure => simp [intOf]; omega
      · have z1 : ((s[i].toNat : Int) == 10) = false := by simp; omega
        by_cases e2 : s[i].toNat = 92 ∨ s[i] = m
        · have hE : escB m s[i] = [92, s[i]] := by unfold escB; rw [if_neg e1, if_pos e2]
          rw [hE] at hQ
          have HQ := hide hQ
          clear hQ hE
          by_cases e3 : s[i].toNat = 92
          · have z2 : ((s[i].toNat : Int) == 92) = true := by rw [e3]; rfl
            have HN : Hid (Lib.byteCells [92, s[i]] = [.int .u8 92, .int .u8 (s[i].toNat : Int)]) := rfl
            clear e1 e2 e3
            go_wp2_with (at_builtin; refine push_step rfl _ _ rfl w.heap.size _ ao cp n out [92, s[i]] 2 rfl ⟨wr.heap.size, 0, none⟩ rfl rfl (by simp; omega) (hR.alloc _) (new_bytes wr [92, s[i]] _ 5 rfl) (by simp; omega) ?_; intro ao6 cp6 n6 W6 hR6 bb6; replace bb6 := ((BK.refl w.heap.size wr).alloc hzw _).trans bb6)
            go_roundw
            case rel => exact ⟨i + 1, n6, cp6, ao6, out ++ [92, s[i]], rfl, by go_num, by omega, hR6, by simp; omega, HQ, hb.trans bb6.1⟩
            case measure => simp [intOf]; omega
          · have z2 : ((s[i].toNat : Int) == 92) = false := by simp; omega
            have e4 : s[i] = m := by rcases e2 with h | h; exact absurd h e3; exact h
            have z3 : ((s[i].toNat : Int) == (m.toNat : Int)) = true := by rw [e4]; simp
            clear e1 e2 e3 e4
            go_wp2_with (at_builtin; refine push_step rfl _ _ rfl w.heap.size _ ao cp n out [92, s[i]] 2 rfl ⟨wr.heap.size, 0, none⟩ rfl rfl (by simp; omega) (hR.alloc _) (new_bytes wr [92, s[i]] _ 5 rfl) (by simp; omega) ?_; intro ao6 cp6 n6 W6 hR6 bb6; replace bb6 := ((BK.refl w.heap.size wr).alloc hzw _).trans bb6)
            go_roundw
            case rel => exact ⟨i + 1, n6, cp6, ao6, out ++ [92, s[i]], rfl, by go_num, by omega, hR6, by simp; omega, HQ, hb.trans bb6.1⟩
            case measure => simp [intOf]; omega
        · have hE : escB m s[i] = [s[i]] := by unfold escB; rw [if_neg e1, if_neg e2]
          rw [hE] at hQ
          have HQ := hide hQ
          have z2 : ((s[i].toNat : Int) == 92) = false := by simp; omega
          have z3 : ((s[i].toNat : Int) == (m.toNat : Int)) = false := by
            simp
            intro h
            exact e2 (.inr (UInt8.toNat_inj.1 (by omega)))
          clear hQ hE e1 e2
          go_wp2_with (at_builtin; refine push_step rfl _ _ rfl w.heap.size _ ao cp n out [s[i]] 1 rfl ⟨wr.heap.size, 0, none⟩ rfl rfl (by simp; omega) (hR.alloc _) (new_bytes wr [s[i]] _ 5 rfl) (by simp; omega) ?_; intro ao6 cp6 n6 W6 hR6 bb6; replace bb6 := ((BK.refl w.heap.size wr).alloc hzw _).trans bb6)
          go_roundw
          case rel => exact ⟨i + 1, n6, cp6, ao6, out ++ [s[i]], rfl, by go_num, by omega, hR6, by simp; omega, HQ, hb.trans bb6.1⟩
          case measure => simp [intOf]; omega
    · have hlt' : ¬ (i : Int) < s.size := by omega
      have hE : out ++ [m] = escT m s := by
        have := hq.out
        rwa [List.drop_eq_nil_of_le (by simp; show s.size ≤ i; omega), List.flatMap_nil, List.append_nil] at this
      have HE := hide hE
      clear hE
      go_wp2_with (at_builtin; refine push_step rfl _ _ rfl w.heap.size _ ao cp n out [m] 1 rfl ⟨wr.heap.size, 0, none⟩ rfl rfl (by simp; omega) (hR.alloc _) (new_bytes wr [m] _ 5 rfl) (by simp; omega) ?_; intro ao6 cp6 n6 W6 hR6 bb6; replace bb6 := ((BK.refl w.heap.size wr).alloc hzw _).trans bb6; have hcv6 := hR6.text)
      go_ret
      exact ⟨by rw [← HE.out]; rfl, hb.trans bb6.1⟩

end Go.Proofs.YtjfoagmenehapaaGreatDoor

