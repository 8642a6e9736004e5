import Derived.Test.YtplhjcohkjomgaaDoorAJ
import Derived.Maps.Views
namespace Go.Proofs.YtplhjcohkjomgaaDoor
open Go.RowKit Go.Joins

/-- The kind kept for a text after j words and m marks. -/
def kA (j m : Nat) (t : List UInt8) : Nat := if (List.range m).any (fun i => (markAt i).data.toList == t) then 9 else if (List.range j).any (fun i => (wordAt i).data.toList == t) then 8 else 0

theorem kA_word (j : Nat) (t : List UInt8) : kA (j + 1) 0 t = if (wordAt j).data.toList = t then 8 else kA j 0 t := by
  unfold kA
  rw [List.range_succ, List.any_append]
  by_cases h : (wordAt j).data.toList = t
  · rw [if_pos h]; simp [h]
  · rw [if_neg h]; simp [h]
theorem kA_mark (j m : Nat) (t : List UInt8) : kA j (m + 1) t = if (markAt m).data.toList = t then 9 else kA j m t := by
  unfold kA
  rw [List.range_succ, List.any_append]
  by_cases h : (markAt m).data.toList = t
  · rw [if_pos h]; simp [h]
  · rw [if_neg h]; simp [h]

theorem kA_all (t : ByteArray) : kA 18 11 t.data.toList = kk t := by
  have hw : (List.range 18).any (fun i => (wordAt i).data.toList == t.data.toList) = word t := by
    unfold word; simp only [Lib.toList_data]
  have hm : (List.range 11).any (fun i => (markAt i).data.toList == t.data.toList) = mark t := by
    unfold mark; simp only [Lib.toList_data]
  unfold kA kk
  rw [hw, hm]
  rcases q : word t with _ | _
  · rfl
  · rcases q2 : mark t with _ | _
    · rfl
    · have h1 := word_sml q
      have h2 := mark_sym q2
      rw [ins_sym (by simp [ins, h1])] at h2
      cases h2

/-- Block M keeps the kinds. -/
def KD (w : World) (M n : Nat) (f : List UInt8 → Nat) : Prop := ∃ D : DataW Unit, w.ownsMap Tryd.prog 9 (plainElem Tryd.prog 2) M n D ∧ Maps.IsMap D ∧ ∀ t, D.atKey (.string t) (.lit (.int .i64 0)) = .lit (.int .i64 (f t))

theorem KD.start (w : World) : KD (w.alloc (.map #[] 0)) w.heap.size 0 (kA 0 0) :=
  ⟨.map [], World.ownsMap_made w _ _ _, Maps.isMap_empty, fun t => by simp [kA, DataW.atKey]⟩

theorem zero2 (w : World) : (zeroValue 2).run Tryd.prog w = .ok (.int .i64 0) w := by kernel_rfl

theorem KD.km {w : World} {M n : Nat} {f : List UInt8 → Nat} (h : KD w M n f) (hf : ∀ t : ByteArray, f t.data.toList = kk t) : KM w M := by
  obtain ⟨D, ⟨es, clock, hb, F, hs, hD⟩, hI, hat⟩ := h
  refine ⟨.map es clock, hb, fun c t fz e => (by cases e), fun w' t hw' ht => ?_⟩
  have ho : w'.ownsMap Tryd.prog 9 (plainElem Tryd.prog 2) M n D := ⟨es, clock, hw', F, hs, hD⟩
  obtain ⟨c, hrun, hc, _⟩ := ho.lookup_int (Maps.string_keyed Tryd.underlying9) Tryd.underlying49 Tryd.underlying2 (zero2 w') (WideMaps.keyOf_string_mk Tryd.underlying9 ht)
  rw [hat] at hc
  simp only [DataW.lit.injEq, Lit.int.injEq, true_and] at hc
  rw [hrun, ← hc, hf]

theorem KD.put {w' : World} {M n : Nat} {f : List UInt8 → Nat} {D : DataW Unit} {x : List UInt8} {v : Nat} (hI : Maps.IsMap D) (hat : ∀ t, D.atKey (.string t) (.lit (.int .i64 0)) = .lit (.int .i64 (f t))) (ho : w'.ownsMap Tryd.prog 9 (plainElem Tryd.prog 2) M n (D.put (.string x) (.lit (.int .i64 v)))) :
    KD w' M n (fun t => if x = t then v else f t) := by
  refine ⟨_, ho, hI.put _ _, fun t => ?_⟩
  show _ = DataW.lit (.int .i64 ((if x = t then v else f t : Nat) : Int))
  by_cases h : x = t
  · subst h; rw [if_pos rfl]; exact Maps.atKey_put_same hI (k := .string x) trivial _ _
  · rw [if_neg h, Maps.atKey_put_other (fun e => h (by injection e with e; exact e.symm))]; exact hat t

theorem f_words : Lib.fields [99, 97, 115, 101, 32, 99, 108, 97, 115, 115, 32, 100, 97, 116, 97, 32, 100, 101, 114, 105, 118, 105, 110, 103, 32, 101, 108, 115, 101, 32, 105, 102, 32, 105, 109, 112, 111, 114, 116, 32, 105, 110, 32, 105, 110, 102, 105, 120, 32, 105, 110, 102, 105, 120, 108, 32, 105, 110, 102, 105, 120, 114, 32, 105, 110, 115, 116, 97, 110, 99, 101, 32, 108, 101, 116, 32, 109, 111, 100, 117, 108, 101, 32, 111, 102, 32, 116, 104, 101, 110, 32, 119, 104, 101, 114, 101, 32, 95] = (List.range 18).map (fun j => (wordAt j).data.toList) := by decide
theorem f_marks : Lib.fields [61, 32, 124, 32, 45, 62, 32, 60, 45, 32, 92, 32, 58, 58, 32, 61, 62, 32, 46, 46, 32, 64, 32, 126, 32, 33] = (List.range 11).map (fun j => (markAt j).data.toList) := by decide

def wCells : Array Value := ((List.range 18).map fun j => Value.string (wordAt j)).toArray
def mCells : Array Value := ((List.range 11).map fun j => Value.string (markAt j)).toArray

theorem iWords (w : World) (ht : Lib.TabIs Tryd.prog w "strings.asciiSpace" .u8 Lib.asciiSpaceTab) : Calls Tryd.prog 53 #[.string ⟨#[99, 97, 115, 101, 32, 99, 108, 97, 115, 115, 32, 100, 97, 116, 97, 32, 100, 101, 114, 105, 118, 105, 110, 103, 32, 101, 108, 115, 101, 32, 105, 102, 32, 105, 109, 112, 111, 114, 116, 32, 105, 110, 32, 105, 110, 102, 105, 120, 32, 105, 110, 102, 105, 120, 108, 32, 105, 110, 102, 105, 120, 114, 32, 105, 110, 115, 116, 97, 110, 99, 101, 32, 108, 101, 116, 32, 109, 111, 100, 117, 108, 101, 32, 111, 102, 32, 116, 104, 101, 110, 32, 119, 104, 101, 114, 101, 32, 95]⟩] w fun e w' => e = .returned (.slice (some ⟨w.heap.size, 0, none⟩) 18 18) ∧ w' = w.alloc (.cells wCells 9) := by
  refine (Tryd.strings_Fields _ w (by decide) ?_ ht).mono ?_
  · intro j b hj
    have hall : ∀ b ∈ ([99, 97, 115, 101, 32, 99, 108, 97, 115, 115, 32, 100, 97, 116, 97, 32, 100, 101, 114, 105, 118, 105, 110, 103, 32, 101, 108, 115, 101, 32, 105, 102, 32, 105, 109, 112, 111, 114, 116, 32, 105, 110, 32, 105, 110, 102, 105, 120, 32, 105, 110, 102, 105, 120, 108, 32, 105, 110, 102, 105, 120, 114, 32, 105, 110, 115, 116, 97, 110, 99, 101, 32, 108, 101, 116, 32, 109, 111, 100, 117, 108, 101, 32, 111, 102, 32, 116, 104, 101, 110, 32, 119, 104, 101, 114, 101, 32, 95] : List UInt8), b.toNat < 128 := by decide
    exact hall b (List.mem_of_getElem? hj)
  · rintro e w' ⟨rfl, rfl⟩
    simp only [f_words]
    exact ⟨rfl, rfl⟩
theorem iMarks (w : World) (ht : Lib.TabIs Tryd.prog w "strings.asciiSpace" .u8 Lib.asciiSpaceTab) : Calls Tryd.prog 53 #[.string ⟨#[61, 32, 124, 32, 45, 62, 32, 60, 45, 32, 92, 32, 58, 58, 32, 61, 62, 32, 46, 46, 32, 64, 32, 126, 32, 33]⟩] w fun e w' => e = .returned (.slice (some ⟨w.heap.size, 0, none⟩) 11 11) ∧ w' = w.alloc (.cells mCells 9) := by
  refine (Tryd.strings_Fields _ w (by decide) ?_ ht).mono ?_
  · intro j b hj
    have hall : ∀ b ∈ ([61, 32, 124, 32, 45, 62, 32, 60, 45, 32, 92, 32, 58, 58, 32, 61, 62, 32, 46, 46, 32, 64, 32, 126, 32, 33] : List UInt8), b.toNat < 128 := by decide
    exact hall b (List.mem_of_getElem? hj)
  · rintro e w' ⟨rfl, rfl⟩
    simp only [f_marks]
    exact ⟨rfl, rfl⟩

def Tab (w : World) : Prop := Lib.TabIs Tryd.prog w "strings.asciiSpace" .u8 Lib.asciiSpaceTab
def TabB (B : Nat) (w : World) : Prop := ∀ w', Below B w w' → Tab w'
theorem TabB.next {B : Nat} {w w1 : World} (h : TabB B w) (hb : Below B w w1) : TabB B w1 := fun w' k => h w' (hb.trans k)
theorem TabB.tab {B : Nat} {w : World} (h : TabB B w) : Tab w := h w (Below.refl _ _)

theorem wcell (j : Nat) (hj : j < 18) : wCells[j]? = some (.string (wordAt j)) := by
  unfold wCells
  rw [List.getElem?_toArray, List.getElem?_map, List.getElem?_range hj]
  rfl
theorem mcell (j : Nat) (hj : j < 11) : mCells[j]? = some (.string (markAt j)) := by
  unfold mCells
  rw [List.getElem?_toArray, List.getElem?_map, List.getElem?_range hj]
  rfl
theorem wsize (j : Nat) (hj : j < 18) : (wordAt j).size ≤ maxLen := by
  have key : ∀ j : Fin 18, (wordAt j.val).size ≤ 8 := by decide
  have := key ⟨j, hj⟩
  unfold maxLen; simp only at this; omega
theorem msize (j : Nat) (hj : j < 11) : (markAt j).size ≤ maxLen := by
  have key : ∀ j : Fin 11, (markAt j.val).size ≤ 8 := by decide
  have := key ⟨j, hj⟩
  unfold maxLen; simp only at this; omega

set_option maxHeartbeats 2000000 in
set_option maxRecDepth 100000 in
theorem iKept (w : World) (ht : TabB w.heap.size w) : Calls Tryd.prog 26 #[] w fun e w' => e = .returned (.map (some w.heap.size)) ∧ KM w' w.heap.size ∧ w.heap.size < w'.heap.size ∧ Below w.heap.size w w' := by
  have hmm := @run_makeMap Tryd.prog
  have HT := hide ht
  clear ht
  go_enter Tryd.func26, Tryd.ntmps26
  go_wp2_with fail
  have b0 := below_alloc1 w (.map #[] 0)
  refine (iWords _ (HT.out _ b0)).mono ?_
  rintro e w1 ⟨rfl, rfl⟩
  go_wp2_with fail
  go_loopw [3, 9] (fun _ i wr => ∃ j : Nat, j ≤ 18 ∧ i = .int .i64 j ∧ Hid (KD wr w.heap.size j (kA j 0)) ∧ wr.heap[w.heap.size + 1]? = some (.cells wCells 9 (0, 0)) ∧ w.heap.size + 2 ≤ wr.heap.size ∧ Below w.heap.size w wr) (fun _ i _ => 18 - (intOf i).toNat)
  case atStart =>
    refine ⟨0, by omega, rfl, ?_, ?_, ?_, ?_⟩
    · obtain ⟨D, h1, h2⟩ := KD.start w
      exact ⟨D, h1.alloc _, h2⟩
    · have := heap_new (w.alloc (.map #[] 0)) (.cells wCells 9)
      simpa using this
    · simp
    · exact b0.trans ((below_alloc1 _ _).mono (by simp))
  case round =>
    obtain ⟨j, hj, rfl, HD, hc, hz, hb⟩ := hrel
    by_cases hlt : j < 18
    · have hlt' : (j : Int) < 18 := by omega
      have hcell : wr.cell? ⟨w.heap.size + 1, j, none⟩ = some (.string (wordAt j)) := by rw [Lib.cell_of_heap hc]; exact wcell j hlt
      have hkey := WideMaps.keyOf_string_mk Tryd.underlying9 (wsize j hlt)
      obtain ⟨D, hown, hI, hat⟩ := HD.out
      have HAT := hide hat
      clear hat
      go_wp2_with (first | (at_mapUpdate; refine wpList_mapUpdate_own _ rfl _ _ _ 49 rfl 9 2 (Maps.string_keyed Tryd.underlying9) Tryd.underlying49 _ w.heap.size j D rfl hown (by unfold maxLen; omega) _ _ _ rfl rfl hkey _ [] (plainElem_int Tryd.underlying2 (a := 8) (by decide)) ?_; intro w2 hown2 hg2) | fail)
      go_roundw
      case rel =>
        have hk := KD.put hI HAT.out (v := 8) hown2
        refine ⟨j + 1, by omega, rfl, ?_, ?_, ?_, ?_⟩
        · obtain ⟨D2, k1, k2, k3⟩ := hk
          exact ⟨D2, k1, k2, fun t => by rw [kA_word]; exact k3 t⟩
        · rw [hg2.block _ (by omega) (by simp)]; exact hc
        · exact Nat.le_trans hz hg2.size
        · exact hb.grown hg2 hb.size (fun k hk => by cases hk; exact Nat.le_refl _)
      case measure => simp [intOf]; omega
    · have hlt' : ¬ (j : Int) < 18 := by omega
      obtain rfl : j = 18 := by omega
      obtain ⟨wp, hwp⟩ : ∃ wp, wp = wr := ⟨_, rfl⟩
      subst hwp
      go_wp2_with fail
      refine (iMarks _ (HT.out _ hb)).mono ?_
      rintro e w1 ⟨rfl, rfl⟩
      go_wp2_with fail
      go_loopw [5, 18] (fun _ i wq => ∃ j : Nat, j ≤ 11 ∧ i = .int .i64 j ∧ Hid (KD wq w.heap.size (18 + j) (kA 18 j)) ∧ wq.heap[wp.heap.size]? = some (.cells mCells 9 (0, 0)) ∧ wp.heap.size < wq.heap.size ∧ Below w.heap.size w wq) (fun _ i _ => 11 - (intOf i).toNat)
      case atStart =>
        refine ⟨0, by omega, rfl, ?_, heap_new wp _, by simp, ?_⟩
        · obtain ⟨D, h1, h2⟩ := HD.out
          exact ⟨D, h1.alloc _, h2⟩
        · exact hb.trans ((below_alloc1 _ _).mono (by omega))
      case round =>
        obtain ⟨j, hj, rfl, HD2, hc2, hz2, hb2⟩ := hrel
        by_cases hlt : j < 11
        · have hlt' : (j : Int) < 11 := by omega
          have hcell : wr.cell? ⟨wp.heap.size, j, none⟩ = some (.string (markAt j)) := by rw [Lib.cell_of_heap hc2]; exact mcell j hlt
          have hkey := WideMaps.keyOf_string_mk Tryd.underlying9 (msize j hlt)
          obtain ⟨D, hown, hI, hat⟩ := HD2.out
          have HAT := hide hat
          clear hat
          go_wp2_with (first | (at_mapUpdate; refine wpList_mapUpdate_own _ rfl _ _ _ 49 rfl 9 2 (Maps.string_keyed Tryd.underlying9) Tryd.underlying49 _ w.heap.size (18 + j) D rfl hown (by unfold maxLen; omega) _ _ _ rfl rfl hkey _ [] (plainElem_int Tryd.underlying2 (a := 9) (by decide)) ?_; intro w2 hown2 hg2) | fail)
          go_roundw
          case rel =>
            have hk := KD.put hI HAT.out (v := 9) hown2
            refine ⟨j + 1, by omega, rfl, ?_, ?_, Nat.lt_of_lt_of_le hz2 hg2.size, ?_⟩
            · obtain ⟨D2, k1, k2, k3⟩ := hk
              exact ⟨D2, k1, k2, fun t => by rw [kA_mark]; exact k3 t⟩
            · rw [hg2.block _ hz2 (by simp; omega)]; exact hc2
            · exact hb2.grown hg2 hb2.size (fun k hk => by cases hk; exact Nat.le_refl _)
          case measure => simp [intOf]; omega
        · have hlt' : ¬ (j : Int) < 11 := by omega
          obtain rfl : j = 11 := by omega
          go_wp2_with fail
          go_ret
          exact ⟨rfl, HD2.out.km kA_all, by omega, hb2⟩

end Go.Proofs.YtplhjcohkjomgaaDoor
