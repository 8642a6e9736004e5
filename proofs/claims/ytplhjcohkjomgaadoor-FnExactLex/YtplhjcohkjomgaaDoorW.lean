import Derived.Test.YtplhjcohkjomgaaDoorV
import Derived.Laws.Runes
import Derived.WalkMore
namespace Go.Proofs.YtplhjcohkjomgaaDoor
open Go.RowKit Go.Joins

/-- A rune above 127 is written with two bytes or more, the last above 127. -/
theorem enc_high (r : Nat) (h : 128 ≤ r) : 2 ≤ (Utf8.encode (r : Int)).size ∧ (Utf8.encode (r : Int)).size ≤ 4 ∧ 128 ≤ bt (Utf8.encode (r : Int)) ((Utf8.encode (r : Int)).size - 1) := by
  obtain ⟨c, hc, h128, hm⟩ : ∃ c : Nat, c = (if Utf8.valid (r : Int) then (r : Int).toNat else Utf8.runeError) ∧ 128 ≤ c ∧ c ≤ 1114111 := by
    refine ⟨_, rfl, ?_, ?_⟩
    · split
      · simpa using h
      · decide
    · split
      · rename_i hv
        simp [Utf8.valid] at hv
        simp; omega
      · decide
  unfold Utf8.encode
  simp only
  rw [← hc]
  rw [if_neg (by omega)]
  have key : ∀ n : Nat, n < 256 → (UInt8.ofNat n).toNat = n := fun n hn => by simp; omega
  split
  · refine ⟨by simp [ByteArray.size], by simp [ByteArray.size], ?_⟩
    show 128 ≤ bt ⟨#[_, _]⟩ 1
    unfold bt
    rw [dif_pos (by simp [ByteArray.size])]
    show 128 ≤ (UInt8.ofNat (128 + c % 64)).toNat
    rw [key _ (by omega)]; omega
  · split
    · refine ⟨by simp [ByteArray.size], by simp [ByteArray.size], ?_⟩
      show 128 ≤ bt ⟨#[_, _, _]⟩ 2
      unfold bt
      rw [dif_pos (by simp [ByteArray.size])]
      show 128 ≤ (UInt8.ofNat (128 + c % 64)).toNat
      rw [key _ (by omega)]; omega
    · refine ⟨by simp [ByteArray.size], by simp [ByteArray.size], ?_⟩
      show 128 ≤ bt ⟨#[_, _, _, _]⟩ 3
      unfold bt
      rw [dif_pos (by simp [ByteArray.size])]
      show 128 ≤ (UInt8.ofNat (128 + c % 64)).toNat
      rw [key _ (by omega)]; omega

theorem indexByte_none : ∀ (l : List UInt8) (c : UInt8), (∀ b ∈ l, b ≠ c) → Lib.indexByte l c = -1
  | [], _, _ => rfl
  | b :: l, c, h => by
    have h1 := h b (List.mem_cons_self)
    have h2 := indexByte_none l c (fun x hx => h x (List.mem_cons_of_mem _ hx))
    unfold Lib.indexByte
    rw [if_neg (by simpa using h1), h2]
    rfl

set_option maxHeartbeats 2000000 in
set_option maxRecDepth 100000 in
theorem iIndexHigh (s : ByteArray) (r : Nat) (w : World) (ha : ∀ i, i < s.size → bt s i < 128) (h5 : 5 ≤ s.size) (hs : s.size ≤ 1000) (h : 128 ≤ r) (h2 : r ≤ 2147483647) :
    Calls Tryd.prog 88 #[.string s, .int .i32 r] w fun e w' => e = .returned (.int .i64 (-1)) ∧ Below w.heap.size w w' := by
  have d1 : decide ((r : Int) < 128) = false := by simp; omega
  by_cases hE : r = 65533
  · subst hE
    go_enter Tryd.func88, Tryd.ntmps88
    go_wp2_with fail
    go_loopw [5, 6] (fun _ _ wr => ∃ pos : Nat, pos ≤ s.size ∧ wr.heap[w.heap.size]? = some (.stringIter s pos) ∧ Below w.heap.size w wr) (fun _ _ wr => s.size - wr.iterPos w.heap.size)
    case atStart => exact ⟨0, Nat.zero_le _, heap_new w _, below_alloc1 _ _⟩
    case round =>
      obtain ⟨pos, hp, hit, hb⟩ := hrel
      by_cases hlt : pos < s.size
      · have hbt := bt_in hlt
        have hal := ha pos hlt
        have hnx : ∀ ty, (Instr.next (.pointer (some ⟨w.heap.size, 0, none⟩)) true ty).run Tryd.prog wr = _ := fun ty => Lib.run_next_any_at wr w.heap.size s pos ty hit hlt
        rw [dec_low hlt hal] at hnx
        have z1 : ((bt s pos : Int) == 65533) = false := by simp; omega
        have hit2 := Lib.iterAt_heap wr w.heap.size s pos (pos + 1) hit
        have hb2 := Lib.below_iterAt hb (k := w.heap.size) (Nat.le_refl _) s (pos + 1)
        clear hbt
        go_wp2_with fail
        go_roundw
        case rel => exact ⟨pos + 1, by omega, hit2, hb2⟩
        case measure =>
          simp only [World.iterPos, hit2, hit]
          omega
      · have hnx : ∀ ty, (Instr.next (.pointer (some ⟨w.heap.size, 0, none⟩)) true ty).run Tryd.prog wr = _ := fun ty => Lib.run_next_end_at wr w.heap.size s pos ty hit hlt
        go_wp2_with fail
        go_ret
        exact ⟨rfl, hb⟩
  · have d2 : ((r : Int) == 65533) = false := by simp; omega
    rcases hv : Lib.validRune (r : Int) with _ | _
    · go_enter Tryd.func88, Tryd.ntmps88
      go_wp2_with (go_at_call 100; refine (Tryd.utf8_ValidRune _ _).mono ?_; rintro e w1 ⟨rfl, rfl⟩; rw [hv])
      go_ret
      exact ⟨rfl, Below.refl _ _⟩
    · obtain ⟨e1, e2, e3⟩ := enc_high r h
      have hcv : (convert 21 9 (.int .i32 (r : Int))).run Tryd.prog w = .ok (.string (Utf8.encode (r : Int))) w := run_convert_int_string w 21 9 .i32 (r : Int) (by rw [Tryd.underlying21]; rfl) Tryd.underlying9
      generalize Utf8.encode (r : Int) = rs at e1 e2 e3 hcv
      obtain ⟨L, hL⟩ : ∃ L, L = rs.size - 1 := ⟨_, rfl⟩
      rw [← hL] at e3
      have hL' : (rs.size : Int) - 1 = (L : Int) := by omega
      have hLs : L < s.size := by omega
      have hLr : L < rs.size := by omega
      have hLs' : (L : Int) < s.size := by omega
      have hLr' : (L : Int) < rs.size := by omega
      have b1 := bt_in hLs
      have b2 := bt_in hLr
      have a1 := ha L hLs
      have z1 : ((s[L].toNat : Int) == (rs[L].toNat : Int)) = false := by rw [b1, b2]; simp; omega
      have hIB : Hid (Lib.indexByte (s.extract (L + 1) s.size).data.toList ((rs[L].toNat : Int).toNat.toUInt8) = -1) := by
        unfold Hid
        apply indexByte_none
        intro x hx hxe
        obtain ⟨i, hi, rfl⟩ := List.getElem_of_mem hx
        have hi' : i < (s.extract (L + 1) s.size).size := by simpa using hi
        have h4 : ((s.extract (L + 1) s.size).data.toList[i]).toNat = bt s (L + 1 + i) := by
          rw [ByteArray.size_extract] at hi'
          rw [← bt_extract s (L + 1) s.size i (Nat.le_refl _) (by omega)]
          unfold bt
          rw [dif_pos (by rw [ByteArray.size_extract]; omega)]
          rfl
        have h5 : L + 1 + i < s.size := by rw [ByteArray.size_extract] at hi'; omega
        have h6 := ha _ h5
        rw [hxe] at h4
        have h7 : ((rs[L].toNat : Int).toNat.toUInt8).toNat = rs[L].toNat := by simp
        rw [h7, b2] at h4
        omega
      obtain ⟨j, hj⟩ : ∃ j, j = L + 1 := ⟨_, rfl⟩
      rw [← hj] at hIB
      have hj1 : (L : Int) + 1 = (j : Int) := by omega
      have hj2 : (j : Int) ≤ s.size := by omega
      have hj3 : IntKind.i64.wrap (j : Int) = (j : Int) := by simp [IntKind.wrap, IntKind.bits, IntKind.signed]; omega
      clear b1 b2 a1 e3 hL hj
      go_enter Tryd.func88, Tryd.ntmps88
      go_wp2_with (go_at_call 100; refine (Tryd.utf8_ValidRune _ _).mono ?_; rintro e w1 ⟨rfl, hw1⟩; obtain rfl : w = w1 := hw1.symm; rw [hv])
      go_step3
      go_wp2_with fail
      go_loopw [9, 10, 11, 12] (fun s9 _ _ _ wr => s9 = .int .i64 L ∧ wr = w) (fun _ _ _ _ _ => 0)
      case atStart => exact ⟨rfl, rfl⟩
      case round =>
        obtain ⟨rfl, rfl⟩ := hrel
        clear hE d1 d2 hcv h2 h ha hv hL'
        go_wp2_with fail
        go_step3
        go_wp2_with fail
        go_region
        all_goals go_wp2_with fail
        go_region_with (go_at_call 99; refine (Tryd.strings_IndexByte _ _ _).mono ?_; rintro e w2 ⟨rfl, rfl⟩; rw [hIB.out])
        all_goals
          go_wp2_with fail
          rw [Exit.noGoto_ret]
          go_wp2_with fail
          rw [Exit.noGoto_ret]
          go_wp2_with fail
          go_ret
          exact ⟨rfl, (Below.refl _ _).drew.drew⟩

theorem contains_ascii (L : List UInt8) (c : Nat) (hc : c < 128) : decide (0 ≤ Lib.indexByte L ((c : Int).toNat.toUInt8)) = (L.map UInt8.toNat).contains c := by
  have hcc : ((c : Int).toNat.toUInt8).toNat = c := by simp; omega
  rcases h : (L.map UInt8.toNat).contains c with _ | _
  · rw [indexByte_none L _ (fun b hb he => by
      have : (L.map UInt8.toNat).contains c = true := List.contains_iff_mem.2 (List.mem_map.2 ⟨b, hb, by rw [he, hcc]⟩)
      rw [this] at h; cases h)]
    decide
  · have hm := List.contains_iff_mem.1 h
    rw [List.mem_map] at hm
    obtain ⟨x, hx, hxc⟩ := hm
    have hxe : x = (c : Int).toNat.toUInt8 := UInt8.toNat_inj.1 (by rw [hcc, hxc])
    have key : ∀ l : List UInt8, (c : Int).toNat.toUInt8 ∈ l → 0 ≤ Lib.indexByte l ((c : Int).toNat.toUInt8) := by
      intro l
      induction l with
      | nil => intro h; cases h
      | cons b l ih =>
        intro hb
        unfold Lib.indexByte
        split
        · omega
        · rename_i hne
          have hin : (c : Int).toNat.toUInt8 ∈ l := by
            rcases List.mem_cons.1 hb with h | h
            · exact absurd (by rw [h]; simp) hne
            · exact h
          have := ih hin
          split
          · rename_i h1
            rw [beq_iff_eq] at h1
            omega
          · omega
    rw [decide_eq_true (key L (hxe ▸ hx))]

theorem iContains (L : List UInt8) (c : Nat) (w : World) (hL : ∀ b ∈ L, b.toNat < 128) (h5 : 5 ≤ L.length) (hl : L.length ≤ 1000) (hc : c ≤ 2147483647) :
    Calls Tryd.prog 72 #[.string ⟨L.toArray⟩, .int .i32 c] w fun e w' => e = .returned (.bool ((L.map UInt8.toNat).contains c)) ∧ Below w.heap.size w w' := by
  have hz : (⟨L.toArray⟩ : ByteArray).size = L.length := by simp [ByteArray.size]
  by_cases h : c < 128
  · refine (Tryd.strings_ContainsRune_ascii ⟨L.toArray⟩ (c : Int) w (by omega) (by omega)).mono ?_
    rintro e w1 ⟨rfl, rfl⟩
    exact ⟨ret_b (contains_ascii L c h), Below.refl _ _⟩
  · have hno : (L.map UInt8.toNat).contains c = false := by
      rcases q : (L.map UInt8.toNat).contains c with _ | _
      · rfl
      · have hm := List.contains_iff_mem.1 q
        rw [List.mem_map] at hm
        obtain ⟨x, hx, hxc⟩ := hm
        have := hL x hx
        omega
    rw [hno]
    have hI := iIndexHigh ⟨L.toArray⟩ c w (fun i hi => by
      rw [hz] at hi
      unfold bt
      rw [dif_pos (by rw [hz]; exact hi)]
      exact hL _ (List.getElem_mem hi)) (by omega) (by omega) (by omega) hc
    go_enter Tryd.func72, Tryd.ntmps72
    go_wp2_with fail
    refine hI.mono ?_
    rintro e w1 ⟨rfl, b1⟩
    go_wp2_with fail
    go_ret
    exact ⟨rfl, b1⟩

theorem iSymbol (c : Nat) (w : World) (hc : c ≤ 2147483647) : Calls Tryd.prog 68 #[.int .i32 c] w fun e w' => e = .returned (.bool (sym c)) ∧ Below w.heap.size w w' := by
  have h : Calls Tryd.prog 72 #[.string ⟨#[33, 35, 36, 37, 38, 42, 43, 46, 47, 60, 61, 62, 63, 64, 92, 94, 124, 45, 126, 58]⟩, .int .i32 c] w fun e w' => e = .returned (.bool (sym c)) ∧ Below w.heap.size w w' := iContains [33, 35, 36, 37, 38, 42, 43, 46, 47, 60, 61, 62, 63, 64, 92, 94, 124, 45, 126, 58] c w (by decide) (by decide) (by decide) hc
  go_enter Tryd.func68, Tryd.ntmps68
  go_wp2_with fail
  refine h.mono ?_
  rintro e w1 ⟨rfl, b1⟩
  go_wp2_with fail
  go_ret
  exact ⟨rfl, b1⟩

theorem iSpecial (c : Nat) (w : World) (hc : c ≤ 2147483647) : Calls Tryd.prog 72 #[.string ⟨#[40, 41, 91, 93, 44, 59, 96, 123, 125]⟩, .int .i32 c] w fun e w' => e = .returned (.bool (spc c)) ∧ Below w.heap.size w w' :=
  iContains [40, 41, 91, 93, 44, 59, 96, 123, 125] c w (by decide) (by decide) (by decide) hc

end Go.Proofs.YtplhjcohkjomgaaDoor
