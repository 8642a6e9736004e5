import Derived.Test.YtjdncofdjabkiaaDoorQ16
import Derived.Maps.Views
import Derived.Deep.RegionHeld3
namespace Go.Proofs.YtjdncofdjabkiaaDoor
open Go.RowKit Go.Joins

/-- The kind kept for a text after j words and m marks. -/
def kA (j m : Nat) (t : List UInt8) : Nat := if (List.range m).any (fun i => (markAt i).data.toList == t) then 9 else if (List.range j).any (fun i => (wordAt i).data.toList == t) then 8 else 0

theorem kA_word (j : Nat) (t : List UInt8) : kA (j + 1) 0 t = if (wordAt j).data.toList = t then 8 else kA j 0 t := by
  unfold kA
  rw [List.range_succ, List.any_append]
  by_cases h : (wordAt j).data.toList = t
  · rw [if_pos h]; simp [h]
  · rw [if_neg h]; simp [h]
theorem kA_mark (j m : Nat) (t : List UInt8) : kA j (m + 1) t = if (markAt m).data.toList = t then 9 else kA j m t := by
  unfold kA
  rw [List.range_succ, List.any_append]
  by_cases h : (markAt m).data.toList = t
  · rw [if_pos h]; simp [h]
  · rw [if_neg h]; simp [h]

theorem kA_all (t : ByteArray) : kA 18 11 t.data.toList = kk t := by
  have hw : (List.range 18).any (fun i => (wordAt i).data.toList == t.data.toList) = word t := by
    unfold word; simp only [Lib.toList_data]
  have hm : (List.range 11).any (fun i => (markAt i).data.toList == t.data.toList) = mark t := by
    unfold mark; simp only [Lib.toList_data]
  unfold kA kk
  rw [hw, hm]
  rcases q : word t with _ | _
  · rfl
  · rcases q2 : mark t with _ | _
    · rfl
    · have h1 := word_sml q
      have h2 := mark_sym q2
      rw [ins_sym (by simp [ins, h1])] at h2
      cases h2

/-- Block M keeps the kinds. -/
def KD (w : World) (M n : Nat) (f : List UInt8 → Nat) : Prop := ∃ D : DataW Unit, w.ownsMap Tryd.prog 9 (plainElem Tryd.prog 2) M n D ∧ Maps.IsMap D ∧ ∀ t, D.atKey (.string t) (.lit (.int .i64 0)) = .lit (.int .i64 (f t))

theorem KD.start (w : World) : KD (w.alloc (.map #[] 0)) w.heap.size 0 (kA 0 0) :=
  ⟨.map [], World.ownsMap_made w _ _ _, Maps.isMap_empty, fun t => by simp [kA, DataW.atKey]⟩

theorem zero2 (w : World) : (zeroValue 2).run Tryd.prog w = .ok (.int .i64 0) w := by kernel_rfl

theorem KD.km {w : World} {M n : Nat} {f : List UInt8 → Nat} (h : KD w M n f) (hf : ∀ t : ByteArray, f t.data.toList = kk t) : KM w M := by
  obtain ⟨D, ⟨es, clock, hb, F, hs, hD⟩, hI, hat⟩ := h
  refine ⟨.map es clock, hb, fun c t fz e => (by cases e), fun w' t hw' ht => ?_⟩
  have ho : w'.ownsMap Tryd.prog 9 (plainElem Tryd.prog 2) M n D := ⟨es, clock, hw', F, hs, hD⟩
  obtain ⟨c, hrun, hc, _⟩ := ho.lookup_int (Maps.string_keyed Tryd.underlying9) Tryd.underlying49 Tryd.underlying2 (zero2 w') (WideMaps.keyOf_string_mk Tryd.underlying9 ht)
  rw [hat] at hc
  simp only [DataW.lit.injEq, Lit.int.injEq, true_and] at hc
  rw [hrun, ← hc, hf]

theorem KD.put {w' : World} {M n : Nat} {f : List UInt8 → Nat} {D : DataW Unit} {x : List UInt8} {v : Nat} (hI : Maps.IsMap D) (hat : ∀ t, D.atKey (.string t) (.lit (.int .i64 0)) = .lit (.int .i64 (f t))) (ho : w'.ownsMap Tryd.prog 9 (plainElem Tryd.prog 2) M n (D.put (.string x) (.lit (.int .i64 v)))) :
    KD w' M n (fun t => if x = t then v else f t) := by
  refine ⟨_, ho, hI.put _ _, fun t => ?_⟩
  show _ = DataW.lit (.int .i64 ((if x = t then v else f t : Nat) : Int))
  by_cases h : x = t
  · subst h; rw [if_pos rfl]; exact Maps.atKey_put_same hI (k := .string x) trivial _ _
  · rw [if_neg h, Maps.atKey_put_other (fun e => h (by injection e with e; exact e.symm))]; exact hat t

theorem f_words : Lib.fields [99, 97, 115, 101, 32, 99, 108, 97, 115, 115, 32, 100, 97, 116, 97, 32, 100, 101, 114, 105, 118, 105, 110, 103, 32, 101, 108, 115, 101, 32, 105, 102, 32, 105, 109, 112, 111, 114, 116, 32, 105, 110, 32, 105, 110, 102, 105, 120, 32, 105, 110, 102, 105, 120, 108, 32, 105, 110, 102, 105, 120, 114, 32, 105, 110, 115, 116, 97, 110, 99, 101, 32, 108, 101, 116, 32, 109, 111, 100, 117, 108, 101, 32, 111, 102, 32, 116, 104, 101, 110, 32, 119, 104, 101, 114, 101, 32, 95] = (List.range 18).map (fun j => (wordAt j).data.toList) := by decide
theorem f_marks : Lib.fields [61, 32, 124, 32, 45, 62, 32, 60, 45, 32, 92, 32, 58, 58, 32, 61, 62, 32, 46, 46, 32, 64, 32, 126, 32, 33] = (List.range 11).map (fun j => (markAt j).data.toList) := by decide

def wCells : Array Value := ((List.range 18).map fun j => Value.string (wordAt j)).toArray
def mCells : Array Value := ((List.range 11).map fun j => Value.string (markAt j)).toArray

theorem iWords (w : World) (ht : Lib.TabIs Tryd.prog w "strings.asciiSpace" .u8 Lib.asciiSpaceTab) : Calls Tryd.prog 53 #[.string ⟨#[99, 97, 115, 101, 32, 99, 108, 97, 115, 115, 32, 100, 97, 116, 97, 32, 100, 101, 114, 105, 118, 105, 110, 103, 32, 101, 108, 115, 101, 32, 105, 102, 32, 105, 109, 112, 111, 114, 116, 32, 105, 110, 32, 105, 110, 102, 105, 120, 32, 105, 110, 102, 105, 120, 108, 32, 105, 110, 102, 105, 120, 114, 32, 105, 110, 115, 116, 97, 110, 99, 101, 32, 108, 101, 116, 32, 109, 111, 100, 117, 108, 101, 32, 111, 102, 32, 116, 104, 101, 110, 32, 119, 104, 101, 114, 101, 32, 95]⟩] w fun e w' => e = .returned (.slice (some ⟨w.heap.size, 0, none⟩) 18 18) ∧ w' = w.alloc (.cells wCells 9) := by
  refine (Tryd.strings_Fields _ w (by decide) ?_ ht).mono ?_
  · intro j b hj
    have hall : ∀ b ∈ ([99, 97, 115, 101, 32, 99, 108, 97, 115, 115, 32, 100, 97, 116, 97, 32, 100, 101, 114, 105, 118, 105, 110, 103, 32, 101, 108, 115, 101, 32, 105, 102, 32, 105, 109, 112, 111, 114, 116, 32, 105, 110, 32, 105, 110, 102, 105, 120, 32, 105, 110, 102, 105, 120, 108, 32, 105, 110, 102, 105, 120, 114, 32, 105, 110, 115, 116, 97, 110, 99, 101, 32, 108, 101, 116, 32, 109, 111, 100, 117, 108, 101, 32, 111, 102, 32, 116, 104, 101, 110, 32, 119, 104, 101, 114, 101, 32, 95] : List UInt8), b.toNat < 128 := by decide
    exact hall b (List.mem_of_getElem? hj)
  · rintro e w' ⟨rfl, rfl⟩
    simp only [f_words]
    exact ⟨rfl, rfl⟩
theorem iMarks (w : World) (ht : Lib.TabIs Tryd.prog w "strings.asciiSpace" .u8 Lib.asciiSpaceTab) : Calls Tryd.prog 53 #[.string ⟨#[61, 32, 124, 32, 45, 62, 32, 60, 45, 32, 92, 32, 58, 58, 32, 61, 62, 32, 46, 46, 32, 64, 32, 126, 32, 33]⟩] w fun e w' => e = .returned (.slice (some ⟨w.heap.size, 0, none⟩) 11 11) ∧ w' = w.alloc (.cells mCells 9) := by
  refine (Tryd.strings_Fields _ w (by decide) ?_ ht).mono ?_
  · intro j b hj
    have hall : ∀ b ∈ ([61, 32, 124, 32, 45, 62, 32, 60, 45, 32, 92, 32, 58, 58, 32, 61, 62, 32, 46, 46, 32, 64, 32, 126, 32, 33] : List UInt8), b.toNat < 128 := by decide
    exact hall b (List.mem_of_getElem? hj)
  · rintro e w' ⟨rfl, rfl⟩
    simp only [f_marks]
    exact ⟨rfl, rfl⟩

def Tab (w : World) : Prop := Lib.TabIs Tryd.prog w "strings.asciiSpace" .u8 Lib.asciiSpaceTab
def TabB (B : Nat) (w : World) : Prop := ∀ w', Below B w w' → Tab w'
theorem TabB.next {B : Nat} {w w1 : World} (h : TabB B w) (hb : Below B w w1) : TabB B w1 := fun w' k => h w' (hb.trans k)
theorem TabB.tab {B : Nat} {w : World} (h : TabB B w) : Tab w := h w (Below.refl _ _)

theorem wcell (j : Nat) (hj : j < 18) : wCells[j]? = some (.string (wordAt j)) := by
  unfold wCells
  rw [List.getElem?_toArray, List.getElem?_map, List.getElem?_range hj]
  rfl
theorem mcell (j : Nat) (hj : j < 11) : mCells[j]? = some (.string (markAt j)) := by
  unfold mCells
  rw [List.getElem?_toArray, List.getElem?_map, List.getElem?_range hj]
  rfl
theorem wsize (j : Nat) (hj : j < 18) : (wordAt j).size ≤ maxLen := by
  have key : ∀ j : Fin 18, (wordAt j.val).size ≤ 8 := by decide
  have := key ⟨j, hj⟩
  unfold maxLen; simp only at this; omega
theorem msize (j : Nat) (hj : j < 11) : (markAt j).size ≤ maxLen := by
  have key : ∀ j : Fin 11, (markAt j.val).size ≤ 8 := by decide
  have := key ⟨j, hj⟩
  unfold maxLen; simp only at this; omega

set_option maxHeartbeats 2000000 in
set_option maxRecDepth 100000 in
theorem iKept (w : World) (ht : TabB w.heap.size w) : Calls Tryd.prog 26 #[] w fun e w' => e = .returned (.map (some w.heap.size)) ∧ KM w' w.heap.size ∧ w.heap.size < w'.heap.size ∧ Below w.heap.size w w' := by
  have hmm := @run_makeMap Tryd.prog
  have HT := hide ht
  clear ht
  go_enter Tryd.func26, Tryd.ntmps26
  go_wp2_with fail
  have b0 := below_alloc1 w (.map #[] 0)
  refine (iWords _ (HT.out _ b0)).mono ?_
  rintro e w1 ⟨rfl, rfl⟩
  go_wp2_with fail
  go_loopw [3, 9] (fun _ i wr => ∃ j : Nat, j ≤ 18 ∧ i = .int .i64 j ∧ Hid (KD wr w.heap.size j (kA j 0)) ∧ wr.heap[w.heap.size + 1]? = some (.cells wCells 9 (0, 0)) ∧ w.heap.size + 2 ≤ wr.heap.size ∧ Below w.heap.size w wr) (fun _ i _ => 18 - (intOf i).toNat)
  case atStart =>
    refine ⟨0, by omega, rfl, ?_, ?_, ?_, ?_⟩
    · obtain ⟨D, h1, h2⟩ := KD.start w
      exact ⟨D, h1.alloc _, h2⟩
    · have := heap_new (w.alloc (.map #[] 0)) (.cells wCells 9)
      simpa using this
    · simp
    · exact b0.trans ((below_alloc1 _ _).mono (by simp))
  case round =>
    obtain ⟨j, hj, rfl, HD, hc, hz, hb⟩ := hrel
    by_cases hlt : j < 18
    · have hlt' : (j : Int) < 18 := by omega
      have hcell : wr.cell? ⟨w.heap.size + 1, j, none⟩ = some (.string (wordAt j)) := by rw [Lib.cell_of_heap hc]; exact wcell j hlt
      have hkey := WideMaps.keyOf_string_mk Tryd.underlying9 (wsize j hlt)
      obtain ⟨D, hown, hI, hat⟩ := HD.out
      have HAT := hide hat
      clear hat
      go_wp2_with (first | (at_mapUpdate; refine wpList_mapUpdate_own _ rfl _ _ _ 49 rfl 9 2 (Maps.string_keyed Tryd.underlying9) Tryd.underlying49 _ w.heap.size j D rfl hown (by unfold maxLen; omega) _ _ _ rfl rfl hkey _ [] (plainElem_int Tryd.underlying2 (a := 8) (by decide)) ?_; intro w2 hown2 hg2) | fail)
      go_roundw
      case rel =>
        have hk := KD.put hI HAT.out (v := 8) hown2
        refine ⟨j + 1, by omega, rfl, ?_, ?_, ?_, ?_⟩
        · obtain ⟨D2, k1, k2, k3⟩ := hk
          exact ⟨D2, k1, k2, fun t => by rw [kA_word]; exact k3 t⟩
        · rw [hg2.block _ (by omega) (by simp)]; exact hc
        · exact Nat.le_trans hz hg2.size
        · exact hb.grown hg2 hb.size (fun k hk => by cases hk; exact Nat.le_refl _)
      case measure => simp [intOf]; omega
    · have hlt' : ¬ (j : Int) < 18 := by omega
      obtain rfl : j = 18 := by omega
      obtain ⟨wp, hwp⟩ : ∃ wp, wp = wr := ⟨_, rfl⟩
      subst hwp
      go_wp2_with fail
      refine (iMarks _ (HT.out _ hb)).mono ?_
      rintro e w1 ⟨rfl, rfl⟩
      go_wp2_with fail
      go_loopw [5, 18] (fun _ i wq => ∃ j : Nat, j ≤ 11 ∧ i = .int .i64 j ∧ Hid (KD wq w.heap.size (18 + j) (kA 18 j)) ∧ wq.heap[wp.heap.size]? = some (.cells mCells 9 (0, 0)) ∧ wp.heap.size < wq.heap.size ∧ Below w.heap.size w wq) (fun _ i _ => 11 - (intOf i).toNat)
      case atStart =>
        refine ⟨0, by omega, rfl, ?_, heap_new wp _, by simp, ?_⟩
        · obtain ⟨D, h1, h2⟩ := HD.out
          exact ⟨D, h1.alloc _, h2⟩
        · exact hb.trans ((below_alloc1 _ _).mono (by omega))
      case round =>
        obtain ⟨j, hj, rfl, HD2, hc2, hz2, hb2⟩ := hrel
        by_cases hlt : j < 11
        · have hlt' : (j : Int) < 11 := by omega
          have hcell : wr.cell? ⟨wp.heap.size, j, none⟩ = some (.string (markAt j)) := by rw [Lib.cell_of_heap hc2]; exact mcell j hlt
          have hkey := WideMaps.keyOf_string_mk Tryd.underlying9 (msize j hlt)
          obtain ⟨D, hown, hI, hat⟩ := HD2.out
          have HAT := hide hat
          clear hat
          go_wp2_with (first | (at_mapUpdate; refine wpList_mapUpdate_own _ rfl _ _ _ 49 rfl 9 2 (Maps.string_keyed Tryd.underlying9) Tryd.underlying49 _ w.heap.size (18 + j) D rfl hown (by unfold maxLen; omega) _ _ _ rfl rfl hkey _ [] (plainElem_int Tryd.underlying2 (a := 9) (by decide)) ?_; intro w2 hown2 hg2) | fail)
          go_roundw
          case rel =>
            have hk := KD.put hI HAT.out (v := 9) hown2
            refine ⟨j + 1, by omega, rfl, ?_, ?_, Nat.lt_of_lt_of_le hz2 hg2.size, ?_⟩
            · obtain ⟨D2, k1, k2, k3⟩ := hk
              exact ⟨D2, k1, k2, fun t => by rw [kA_mark]; exact k3 t⟩
            · rw [hg2.block _ hz2 (by simp; omega)]; exact hc2
            · exact hb2.grown hg2 hb2.size (fun k hk => by cases hk; exact Nat.le_refl _)
          case measure => simp [intOf]; omega
        · have hlt' : ¬ (j : Int) < 11 := by omega
          obtain rfl : j = 11 := by omega
          go_wp2_with fail
          go_ret
          exact ⟨rfl, HD2.out.km kA_all, by omega, hb2⟩

end Go.Proofs.YtjdncofdjabkiaaDoor

namespace Go.Proofs.YtjdncofdjabkiaaDoor
open Go.RowKit Go.Joins

theorem TabB.up {B : Nat} {w w1 : World} (h : TabB B w) (hb : Below B w w1) (hB : B ≤ w1.heap.size) : TabB w1.heap.size w1 := fun w' k => h w' (hb.trans (k.mono hB))

def PostA (q1 q2 q3 : Nat) (T : List To) (w : World) (e : Ending) (w' : World) : Prop :=
  ∃ (ao : Option Addr) (cp n : Nat), e = .returned (.agg #[.int .i64 q1, .int .i64 q2, .int .i64 q3, .slice ao n cp]) ∧ TR w.heap.size w' ao cp n T ∧ Below w.heap.size w w'

set_option maxHeartbeats 1000000 in
set_option maxRecDepth 100000 in
theorem iLexG (q1 q2 q3 : Nat) (T : List To) (s : ByteArray) (w : World) (ht : TabB w.heap.size w) (HL : Hid (∀ mb w1, KM w1 mb → mb < w1.heap.size → Calls Tryd.prog 25 #[.map (some mb), .string s] w1 (PostA q1 q2 q3 T w1))) : Calls Tryd.prog 8 #[.string s] w (PostA q1 q2 q3 T w) := by
  have b0 := below_alloc1 w (.cells #[.int .i64 0, .int .i64 0, .int .i64 0, .slice none 0 0] 24)
  have h0 := iKept (w.alloc (.cells #[.int .i64 0, .int .i64 0, .int .i64 0, .slice none 0 0] 24)) (ht.up b0 (by simp))
  have H0 := hide h0
  clear h0 ht
  go_enter Tryd.func8, Tryd.ntmps8
  go_wp2_with fail
  refine H0.out.mono ?_
  rintro e w1 ⟨rfl, hK, hlt, b1⟩
  have b1' : Below w.heap.size w w1 := b0.trans (b1.mono (by simp))
  have b1'' : Below (w.heap.size + 1) (w.alloc (.cells #[.int .i64 0, .int .i64 0, .int .i64 0, .slice none 0 0] 24)) w1 := b1.mono (by simp)
  have hz : w.heap.size + 1 < w1.heap.size := by simpa using hlt
  have hsz : (w.alloc (.cells #[.int .i64 0, .int .i64 0, .int .i64 0, .slice none 0 0] 24)).heap.size = w.heap.size + 1 := by simp
  have H1 := hide (HL.out (w.heap.size + 1) w1 (hsz ▸ hK) hz)
  clear hsz hlt
  go_wp2_with fail
  refine H1.out.mono ?_
  rintro e w2 ⟨ao, cp, n, rfl, hT, b2⟩
  have hb : Below (w.heap.size + 1) (w.alloc (.cells #[.int .i64 0, .int .i64 0, .int .i64 0, .slice none 0 0] 24)) w2 := b1''.trans (b2.mono (by omega))
  have e0 := (hb.cell (p := ⟨w.heap.size, 0, none⟩) (Nat.lt_succ_self _)).trans (show _ = some (.int .i64 0) by simp)
  have e1 := (hb.cell (p := ⟨w.heap.size, 1, none⟩) (Nat.lt_succ_self _)).trans (show _ = some (.int .i64 0) by simp)
  have e2 := (hb.cell (p := ⟨w.heap.size, 2, none⟩) (Nat.lt_succ_self _)).trans (show _ = some (.int .i64 0) by simp)
  have e3 := (hb.cell (p := ⟨w.heap.size, 3, none⟩) (Nat.lt_succ_self _)).trans (show _ = some (.slice none 0 0) by simp)
  have f0 := (hb.frozen (p := ⟨w.heap.size, 0, none⟩) (Nat.lt_succ_self _)).trans (show _ = false by simp)
  have f1 := (hb.frozen (p := ⟨w.heap.size, 1, none⟩) (Nat.lt_succ_self _)).trans (show _ = false by simp)
  have f2 := (hb.frozen (p := ⟨w.heap.size, 2, none⟩) (Nat.lt_succ_self _)).trans (show _ = false by simp)
  have f3 := (hb.frozen (p := ⟨w.heap.size, 3, none⟩) (Nat.lt_succ_self _)).trans (show _ = false by simp)
  have b2' : Below w.heap.size w w2 := b1'.trans (b2.mono (by omega))
  have HT := hide hT
  clear hT hK
  go_wp2_with fail
  refine bodyPost_ret (v := .agg #[.int .i64 q1, .int .i64 q2, .int .i64 q3, .slice ao n cp]) (by simp [results, Tryd.results8, go_sem, e0, e1, e2, e3]) rfl ?_
  refine ⟨ao, cp, n, rfl, ?_, ?_⟩
  · refine TR.less (((TR.only (TR.only (TR.only (TR.only HT.out (Only.setCell _ ⟨w.heap.size, _, none⟩ _) ?_) (Only.setCell _ ⟨w.heap.size, _, none⟩ _) ?_) (Only.setCell _ ⟨w.heap.size, _, none⟩ _) ?_) (Only.setCell _ ⟨w.heap.size, _, none⟩ _) ?_))) ?_ <;> (first | omega | (simp; done) | (simp; omega))
  · refine (((b2'.setCell ?_ _).setCell ?_ _).setCell ?_ _).setCell ?_ _ <;> simp

theorem iLex (s : ByteArray) (w : World) (hs : s.size ≤ 1048576) (ht : TabB w.heap.size w) : Calls Tryd.prog 8 #[.string s] w (LexPost s w) :=
  iLexG _ _ _ _ s w ht (fun mb w1 hK hlt => iLexWith mb s w1 hK hlt hs)

end Go.Proofs.YtjdncofdjabkiaaDoor

namespace Go.Proofs.YtjdncofdjabkiaaDoor
open Go.RowKit Go.Joins

/-- A token as it lies in memory. -/
structure Tq where
  k : Int
  t : ByteArray
  l : Int
  c : Int
/-- Row of n tokens at the head of block g. -/
def Row (w : World) (g n : Nat) (f : Nat → Tq) : Prop := ∀ i, i < n → w.cell? ⟨g, i * 4, none⟩ = some (.int .i64 (f i).k) ∧ w.cell? ⟨g, i * 4 + 1, none⟩ = some (.string (f i).t) ∧ w.cell? ⟨g, i * 4 + 2, none⟩ = some (.int .i64 (f i).l) ∧ w.cell? ⟨g, i * 4 + 3, none⟩ = some (.int .i64 (f i).c)
/-- A slice of n tokens. -/
def Toks (w : World) (ao : Option Addr) (n : Nat) (f : Nat → Tq) : Prop := 0 < n → ∃ g, ao = some ⟨g, 0, none⟩ ∧ Row w g n f ∧ g < w.heap.size

theorem Row.keep {w w' g n f} (h : Row w g n f) (hb : w'.heap[g]? = w.heap[g]?) : Row w' g n f := fun i hi => by
  obtain ⟨h1, h2, h3, h4⟩ := h i hi
  exact ⟨(World.cell?_of_block hb).trans h1, (World.cell?_of_block hb).trans h2, (World.cell?_of_block hb).trans h3, (World.cell?_of_block hb).trans h4⟩
theorem Toks.below {w w' ao n f} {B : Nat} (h : Toks w ao n f) (hb : Below B w w') (hB : ∀ g, ao = some ⟨g, 0, none⟩ → g < B) : Toks w' ao n f := fun hn => by
  obtain ⟨g, e, h1, h2⟩ := h hn
  exact ⟨g, e, h1.keep (hb.block g (hB g e)), Nat.lt_of_lt_of_le h2 hb.size⟩
theorem Toks.next {w w' ao n f} (h : Toks w ao n f) (hb : Below w.heap.size w w') : Toks w' ao n f := fun hn => by
  obtain ⟨g, e, h1, h2⟩ := h hn
  exact ⟨g, e, h1.keep (hb.block g h2), Nat.lt_of_lt_of_le h2 hb.size⟩

set_option maxHeartbeats 1000000 in
set_option maxRecDepth 100000 in
theorem eqTok (k l c : Int) (t : ByteArray) (w : World) : Calls Tryd.prog 36 #[.agg #[.int .i64 k, .string t, .int .i64 l, .int .i64 c], .agg #[.int .i64 k, .string t, .int .i64 l, .int .i64 c]] w fun e w' => e = .returned (.bool true) ∧ Below w.heap.size w w' := by
  go_enter Tryd.func36, Tryd.ntmps36
  go_wp2_with fail
  go_ret
  exact ⟨rfl, (below_alloc1 _ _).trans ((below_alloc1 _ _).mono (by simp))⟩

set_option maxHeartbeats 1000000 in
set_option maxRecDepth 100000 in
theorem eqToks (ao ao' : Option Addr) (n cp cp' : Nat) (f : Nat → Tq) (w : World) (hn : n ≤ 1048576) (h : Toks w ao n f) (h' : Toks w ao' n f) : Calls Tryd.prog 22 #[.slice ao n cp, .slice ao' n cp'] w fun e w' => e = .returned (.bool true) ∧ Below w.heap.size w w' := by
  have H := hide h
  have H' := hide h'
  clear h h'
  go_enter Tryd.func22, Tryd.ntmps22
  go_wp2_with fail
  go_loopw [5] (fun i wr => ∃ j : Nat, j ≤ n ∧ i = .int .i64 j ∧ Below w.heap.size w wr) (fun i _ => n - (intOf i).toNat)
  case atStart => exact ⟨0, Nat.zero_le _, rfl, Below.refl _ _⟩
  case round =>
    obtain ⟨j, hj, rfl, hb⟩ := hrel
    by_cases hlt : j < n
    · have hlt' : (j : Int) < n := by omega
      obtain ⟨g, rfl, hR, hg⟩ := H.out (by omega)
      obtain ⟨g', rfl, hR', hg'⟩ := H'.out (by omega)
      obtain ⟨x0, x1, x2, x3⟩ := hR.keep (hb.block g hg) j hlt
      obtain ⟨y0, y1, y2, y3⟩ := hR'.keep (hb.block g' hg') j hlt
      clear hR hR'
      go_wp2_with fail
      go_region_with (go_at_call 36; refine (eqTok _ _ _ _ _).mono ?_; rintro e w2 ⟨rfl, b2⟩)
      all_goals
        have hz := hb.size
        have hb2 := hb.drew.trans (b2.mono hz)
        go_wp2_with fail
        go_roundw
        case rel => exact ⟨j + 1, by omega, by go_num, hb2⟩
        case measure => simp [intOf]; omega
    · have hlt' : ¬ (j : Int) < n := by omega
      go_wp2_with fail
      go_ret
      exact ⟨rfl, hb⟩

set_option maxHeartbeats 1000000 in
set_option maxRecDepth 100000 in
theorem eqRes (q1 q2 q3 : Int) (ao ao' : Option Addr) (n cp cp' : Nat) (f : Nat → Tq) (w : World) (hn : n ≤ 1048576) (h : Toks w ao n f) (h' : Toks w ao' n f) : Calls Tryd.prog 9 #[.agg #[.int .i64 q1, .int .i64 q2, .int .i64 q3, .slice ao n cp], .agg #[.int .i64 q1, .int .i64 q2, .int .i64 q3, .slice ao' n cp']] w fun e w' => e = .returned (.bool true) ∧ Below w.heap.size w w' := by
  have b0 : Below w.heap.size w ((w.alloc (.cells #[.int .i64 q1, .int .i64 q2, .int .i64 q3, .slice ao n cp] 24)).alloc (.cells #[.int .i64 q1, .int .i64 q2, .int .i64 q3, .slice ao' n cp'] 24)) := (below_alloc1 _ _).trans ((below_alloc1 _ _).mono (by simp))
  have H1 := hide (eqToks ao ao' n cp cp' f _ hn (h.next b0) (h'.next b0))
  clear h h'
  go_enter Tryd.func9, Tryd.ntmps9
  go_wp2_with fail
  refine H1.out.mono ?_
  rintro e w2 ⟨rfl, b2⟩
  go_wp2_with fail
  go_ret
  exact ⟨rfl, b0.trans (b2.mono b0.size)⟩

end Go.Proofs.YtjdncofdjabkiaaDoor

namespace Go.Proofs.YtjdncofdjabkiaaDoor
open Go.RowKit Go.Joins

/-- The digits of a number ahead of a text. -/
def dg (k : Nat) (o : ByteArray) : ByteArray := if _h : k = 0 then o else dg (k / 10) (⟨#[UInt8.ofNat (48 + k % 10)]⟩ ++ o)
termination_by k
decreasing_by omega
def mt (k : Nat) : ByteArray := ⟨#[109]⟩ ++ dg k ⟨#[]⟩

set_option maxHeartbeats 1000000 in
set_option maxRecDepth 100000 in
theorem markText (k : Nat) (w : World) (h0 : 0 < k) (hk : k ≤ 4294967296) : Calls Tryd.prog 54 #[.int .i64 k] w fun e w' => e = .returned (.string (mt k)) ∧ Below w.heap.size w w' := by
  go_enter Tryd.func54, Tryd.ntmps54
  go_wp2_with fail
  go_loopw [0, 3] (fun i o wr => ∃ (j : Nat) (s : ByteArray), j ≤ k ∧ i = .int .i64 j ∧ o = .string s ∧ s.size + j ≤ k ∧ Hid (dg j s = dg k ⟨#[]⟩) ∧ Below w.heap.size w wr) (fun i _ _ => (intOf i).toNat)
  case atStart => exact ⟨k, ⟨#[]⟩, Nat.le_refl _, rfl, rfl, by simp [ByteArray.size], rfl, Below.refl _ _⟩
  case round =>
    obtain ⟨j, s, hj, rfl, rfl, hsz, hd, hb⟩ := hrel
    by_cases hlt : 0 < j
    · have hlt' : (0 : Int) < j := by omega
      obtain ⟨r, hr⟩ : ∃ r, r = j % 10 := ⟨_, rfl⟩
      obtain ⟨q, hq⟩ : ∃ q, q = j / 10 := ⟨_, rfl⟩
      have hr' : (j : Int).tmod 10 = r := by rw [hr, Int.tmod_eq_emod_of_nonneg (by omega)]; omega
      have hq' : (j : Int).tdiv 10 = q := by rw [hq, Int.tdiv_eq_ediv_of_nonneg (by omega)]; omega
      have hrl : r < 10 := by omega
      have hql : q < j := by omega
      have HDG : Hid (dg q (⟨#[UInt8.ofNat (48 + r)]⟩ ++ s) = dg k ⟨#[]⟩) := by
        unfold Hid
        rw [← hd.out, dg.eq_def j s, dif_neg (by omega), hr, hq]
      have hss : ((⟨#[UInt8.ofNat (48 + r)]⟩ : ByteArray) ++ s).size = s.size + 1 := by
        rw [ByteArray.size_append]
        show 1 + s.size = _
        omega
      clear hr hq
      have hcv : (convert 53 9 (.slice (some ⟨wr.heap.size, 0, none⟩) 1 1)).run Tryd.prog (wr.alloc (.cells #[.int .u8 (48 + (r : Int))] 5)) = .ok (.string ⟨#[UInt8.ofNat (48 + r)]⟩) (wr.alloc (.cells #[.int .u8 (48 + (r : Int))] 5)) :=
        run_convert_bytes_back (P := Tryd.prog) (wr.alloc (.cells #[.int .u8 (48 + (r : Int))] 5)) 53 9 5 ⟨wr.heap.size, 0, none⟩ 1 [UInt8.ofNat (48 + r)] Tryd.underlying53 Tryd.underlying5 Tryd.underlying9 (fun j hj => by
          have : j = 0 := by simpa using hj
          subst this
          have hm : (48 + r) % 256 = 48 + r := Nat.mod_eq_of_lt (by omega)
          show (wr.alloc _).cell? _ = _
          simp [Addr.add, hm])
      generalize hG : UInt8.ofNat (48 + r) = G at *
      go_wp2_with fail
      go_roundw
      case rel => exact ⟨q, ⟨#[G]⟩ ++ s, by omega, rfl, rfl, by rw [hss]; omega, HDG, hb.trans ((below_alloc1 _ _).mono hb.size)⟩
      case measure => simp [intOf]; omega
    · have hlt' : ¬ (0 : Int) < j := by omega
      obtain rfl : j = 0 := by omega
      have hd' := hd.out
      rw [dg, dif_pos rfl] at hd'
      subst hd'
      go_wp2_with fail
      go_ret
      exact ⟨rfl, hb⟩

end Go.Proofs.YtjdncofdjabkiaaDoor

namespace Go.Proofs.YtjdncofdjabkiaaDoor
open Go.RowKit Go.Joins

theorem cs {w : World} {g o o' : Nat} {u v : Value} (h : w.cell? ⟨g, o', none⟩ = some u) : (w.setCell ⟨g, o, none⟩ v).cell? ⟨g, o', none⟩ = some (if o' = o then v else u) := by
  by_cases e : o' = o
  · subst e; rw [if_pos rfl]; exact World.cell?_setCell_same _ _ _ h
  · rw [if_neg e]; exact (World.cell?_setCell_other _ _ _ _ (fun hh => e (congrArg Addr.off hh).symm)).trans h

theorem Row.set {w W2 : World} {g n : Nat} {f : Nat → Tq} (h : Row w g n f) (j : Nat) (k l c : Int) (t : ByteArray) (hg : g < w.heap.size) (b2 : Below w.heap.size (w.setCell ⟨g, j * 4, none⟩ (.int .i64 k)) W2) :
    Row (((W2.setCell ⟨g, j * 4 + 1, none⟩ (.string t)).setCell ⟨g, j * 4 + 2, none⟩ (.int .i64 l)).setCell ⟨g, j * 4 + 3, none⟩ (.int .i64 c)) g n (fun i => if i = j then ⟨k, t, l, c⟩ else f i) := fun i hi => by
  obtain ⟨h0, h1, h2, h3⟩ := h i hi
  have go : ∀ o' u, w.cell? ⟨g, o', none⟩ = some u → (((W2.setCell ⟨g, j * 4 + 1, none⟩ (.string t)).setCell ⟨g, j * 4 + 2, none⟩ (.int .i64 l)).setCell ⟨g, j * 4 + 3, none⟩ (.int .i64 c)).cell? ⟨g, o', none⟩ = some (if o' = j * 4 + 3 then .int .i64 c else if o' = j * 4 + 2 then .int .i64 l else if o' = j * 4 + 1 then .string t else if o' = j * 4 then .int .i64 k else u) := fun o' u hu => by
    have a0 := cs (o := j * 4) (v := .int .i64 k) hu
    have a1 := (b2.cell (p := ⟨g, o', none⟩) hg).trans a0
    exact cs (cs (cs a1))
  show _ = some (Value.int .i64 (if i = j then (⟨k, t, l, c⟩ : Tq) else f i).k) ∧ _ = some (Value.string (if i = j then (⟨k, t, l, c⟩ : Tq) else f i).t) ∧ _ = some (Value.int .i64 (if i = j then (⟨k, t, l, c⟩ : Tq) else f i).l) ∧ _ = some (Value.int .i64 (if i = j then (⟨k, t, l, c⟩ : Tq) else f i).c)
  rw [go _ _ h0, go _ _ h1, go _ _ h2, go _ _ h3]
  by_cases e : i = j
  · subst e
    refine ⟨?_, ?_, ?_, ?_⟩
    · rw [if_neg (by omega), if_neg (by omega), if_neg (by omega), if_pos rfl, if_pos rfl]
    · rw [if_neg (by omega), if_neg (by omega), if_pos rfl, if_pos rfl]
    · rw [if_neg (by omega), if_pos rfl, if_pos rfl]
    · rw [if_pos rfl, if_pos rfl]
  · refine ⟨?_, ?_, ?_, ?_⟩ <;> rw [if_neg (by omega), if_neg (by omega), if_neg (by omega), if_neg (by omega), if_neg e]

theorem Row.congr {w : World} {g n : Nat} {f f' : Nat → Tq} (h : Row w g n f) (he : ∀ i, i < n → f i = f' i) : Row w g n f' := fun i hi => by rw [← he i hi]; exact h i hi

theorem grows_of {w w' : World} (h : Below w.heap.size w w') (row : Option Nat) : w.grownBy w' row := ⟨h.os, h.tape, h.output, h.size, fun k hk _ => h.block k hk⟩

/-- The marks from 1 on. -/
def mk (i : Nat) : Tq := ⟨((1 + i * 4 : Nat) : Int), mt (1 + i * 4 + 1), ((1 + i * 4 + 2 : Nat) : Int), ((1 + i * 4 + 3 : Nat) : Int)⟩

set_option maxHeartbeats 1000000 in
set_option maxRecDepth 100000 in
theorem markToks (g n cp : Nat) (f : Nat → Tq) (w : World) (hn : n ≤ 1048576) (hg : g < w.heap.size) (hR : Row w g n f) (hF : ∀ o, w.frozen? ⟨g, o, none⟩ = false) :
    Calls Tryd.prog 27 #[.slice (some ⟨g, 0, none⟩) n cp, .int .i64 1] w fun e w' => e = .returned (.int .i64 ((1 + n * 4 : Nat) : Int)) ∧ Row w' g n mk ∧ w.grownBy w' (some g) := by
  have HR := hide hR
  clear hR
  go_enter Tryd.func27, Tryd.ntmps27
  go_wp2_with fail
  go_loopw [1, 5] (fun k i wr => ∃ (j K : Nat), j ≤ n ∧ Hid (K = 1 + j * 4) ∧ i = .int .i64 j ∧ k = .int .i64 K ∧ Hid (Row wr g n (fun i => if i < j then mk i else f i)) ∧ Hid (∀ o, wr.frozen? ⟨g, o, none⟩ = false) ∧ w.grownBy wr (some g)) (fun _ i _ => n - (intOf i).toNat)
  case atStart => exact ⟨0, 1, Nat.zero_le _, rfl, rfl, rfl, (by unfold Hid; simpa using HR.out), hF, (Only.refl g w).grown⟩
  case round =>
    obtain ⟨j, K, hj, hK, rfl, rfl, HRj, HF, hG⟩ := hrel
    have hKb : K ≤ 4194305 := by have := hK.out; omega
    by_cases hlt : j < n
    · have hlt' : (j : Int) < n := by omega
      have hgr : g < wr.heap.size := Nat.lt_of_lt_of_le hg hG.size
      have hx := HRj.out j hlt
      simp only [Nat.lt_irrefl, if_false] at hx
      generalize f j = fj at hx
      obtain ⟨y0, y1, y2, y3⟩ := fj
      obtain ⟨x0, x1, x2, x3⟩ := hx
      simp only at x0 x1 x2 x3
      have g0 := HF.out (j * 4)
      have g1 := HF.out (j * 4 + 1)
      have g2 := HF.out (j * 4 + 2)
      have g3 := HF.out (j * 4 + 3)
      have HM : Hid (∀ w1, Calls Tryd.prog 54 #[.int .i64 ((K : Int) + 1)] w1 fun e w' => e = .returned (.string (mt (K + 1))) ∧ Below w1.heap.size w1 w') := fun w1 => markText (K + 1) w1 (by omega) (by omega)
      clear hF
      go_wp2_with fail
      refine (HM.out _).mono ?_
      rintro e w2 ⟨rfl, b2⟩
      have hgs : g < (wr.setCell ⟨g, j * 4, none⟩ (.int .i64 K)).heap.size := by simpa using hgr
      have z1 : w2.cell? ⟨g, j * 4 + 1, none⟩ = some (.string y1) := (b2.cell (p := ⟨g, j * 4 + 1, none⟩) hgs).trans (by rw [cs x1, if_neg (by omega)])
      have z2 : w2.cell? ⟨g, j * 4 + 2, none⟩ = some (.int .i64 y2) := (b2.cell (p := ⟨g, j * 4 + 2, none⟩) hgs).trans (by rw [cs x2, if_neg (by omega)])
      have z3 : w2.cell? ⟨g, j * 4 + 3, none⟩ = some (.int .i64 y3) := (b2.cell (p := ⟨g, j * 4 + 3, none⟩) hgs).trans (by rw [cs x3, if_neg (by omega)])
      have HF2 : Hid (∀ o, w2.frozen? ⟨g, o, none⟩ = false) := fun o => (b2.frozen (p := ⟨g, o, none⟩) hgs).trans (by rw [World.frozen?_setCell]; exact HF.out o)
      have f1 := HF2.out (j * 4 + 1)
      have f2 := HF2.out (j * 4 + 2)
      have f3 := HF2.out (j * 4 + 3)
      have b2' : Below wr.heap.size (wr.setCell ⟨g, j * 4, none⟩ (.int .i64 K)) w2 := b2.mono (by simp)
      have HS := hide (Row.set HRj.out j K ((K : Int) + 1 + 1) ((K : Int) + 1 + 1 + 1) (mt (K + 1)) hgr b2')
      have HG2 : Hid (w.grownBy (((w2.setCell ⟨g, j * 4 + 1, none⟩ (.string (mt (K + 1)))).setCell ⟨g, j * 4 + 2, none⟩ (.int .i64 ((K : Int) + 1 + 1))).setCell ⟨g, j * 4 + 3, none⟩ (.int .i64 ((K : Int) + 1 + 1 + 1))) (some g)) :=
        ((((hG.trans (Only.setCell wr ⟨g, j * 4, none⟩ _).grown).trans (grows_of b2 _)).trans (Only.setCell w2 ⟨g, j * 4 + 1, none⟩ _).grown).trans (Only.setCell _ ⟨g, j * 4 + 2, none⟩ _).grown).trans (Only.setCell _ ⟨g, j * 4 + 3, none⟩ _).grown
      clear x0 x1 x2 x3 g0 g1 g2 g3 hgs b2 b2'
      go_wp2_with fail
      go_roundw
      case rel =>
        have hK := hK.out
        refine ⟨j + 1, K + 4, by omega, by unfold Hid; omega, by go_num, by go_num, ?_, fun o => by simp only [World.frozen?_setCell]; exact HF2.out o, HG2.out⟩
        refine HS.out.congr (fun i hi => ?_)
        by_cases e : i = j
        · subst e
          rw [if_pos rfl, if_pos (by omega)]
          unfold mk
          rw [← hK]
          rfl
        · rw [if_neg e]
          by_cases e2 : i < j
          · rw [if_pos e2, if_pos (by omega)]
          · rw [if_neg e2, if_neg (by omega)]
      case measure => simp [intOf]; omega
    · have hlt' : ¬ (j : Int) < n := by omega
      obtain rfl : j = n := by omega
      go_wp2_with fail
      go_ret
      exact ⟨congrArg (fun z => Ending.returned (.int .i64 z)) (show (K : Int) = 1 + (j : Int) * 4 by have := hK.out; omega), fun i hi => by have := HRj.out i hi; simp only [hi, if_true] at this; exact this, hG⟩

end Go.Proofs.YtjdncofdjabkiaaDoor

