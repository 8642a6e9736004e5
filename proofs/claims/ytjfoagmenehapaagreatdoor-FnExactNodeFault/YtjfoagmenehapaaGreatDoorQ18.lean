import Derived.Test.YtjfoagmenehapaaGreatDoorQ17
import Derived.Maps.Views
import Derived.Deep.RegionHeld3
import Derived.Test.YtjfoagmenehapaaGreatDoorQ12
namespace Go.Proofs.YtjfoagmenehapaaGreatDoor
open Go.RowKit Go.Joins

/-- The kind kept for a text after j words and m marks. -/
def kA (j m : Nat) (t : List UInt8) : Nat := if (List.range m).any (fun i => (markAt i).data.toList == t) then 9 else if (List.range j).any (fun i => (wordAt i).data.toList == t) then 8 else 0

theorem kA_word (j : Nat) (t : List UInt8) : kA (j + 1) 0 t = if (wordAt j).data.toList = t then 8 else kA j 0 t := by
  unfold kA
  rw [List.range_succ, List.any_append]
  by_cases h : (wordAt j).data.toList = t
  · rw [if_pos h]; simp [h]
  · rw [if_neg h]; simp [h]
theorem kA_mark (j m : Nat) (t : List UInt8) : kA j (m + 1) t = if (markAt m).data.toList = t then 9 else kA j m t := by
  unfold kA
  rw [List.range_succ, List.any_append]
  by_cases h : (markAt m).data.toList = t
  · rw [if_pos h]; simp [h]
  · rw [if_neg h]; simp [h]

theorem kA_all (t : ByteArray) : kA 18 11 t.data.toList = kk t := by
  have hw : (List.range 18).any (fun i => (wordAt i).data.toList == t.data.toList) = word t := by
    unfold word; simp only [Lib.toList_data]
  have hm : (List.range 11).any (fun i => (markAt i).data.toList == t.data.toList) = mark t := by
    unfold mark; simp only [Lib.toList_data]
  unfold kA kk
  rw [hw, hm]
  rcases q : word t with _ | _
  · rfl
  · rcases q2 : mark t with _ | _
    · rfl
    · have h1 := word_sml q
      have h2 := mark_sym q2
      rw [ins_sym (by simp [ins, h1])] at h2
      cases h2

/-- Block M keeps the kinds. -/
def KD (w : World) (M n : Nat) (f : List UInt8 → Nat) : Prop := ∃ D : DataW Unit, w.ownsMap Tryz.prog 9 (plainElem Tryz.prog 2) M n D ∧ Maps.IsMap D ∧ ∀ t, D.atKey (.string t) (.lit (.int .i64 0)) = .lit (.int .i64 (f t))

theorem KD.start (w : World) : KD (w.alloc (.map #[] 0)) w.heap.size 0 (kA 0 0) :=
  ⟨.map [], World.ownsMap_made w _ _ _, Maps.isMap_empty, fun t => by simp [kA, DataW.atKey]⟩

theorem zero2 (w : World) : (zeroValue 2).run Tryz.prog w = .ok (.int .i64 0) w := by kernel_rfl

theorem KD.km {w : World} {M n : Nat} {f : List UInt8 → Nat} (h : KD w M n f) (hf : ∀ t : ByteArray, f t.data.toList = kk t) : KM w M := by
  obtain ⟨D, ⟨es, clock, hb, F, hs, hD⟩, hI, hat⟩ := h
  refine ⟨.map es clock, hb, fun c t fz e => (by cases e), fun w' t hw' ht => ?_⟩
  have ho : w'.ownsMap Tryz.prog 9 (plainElem Tryz.prog 2) M n D := ⟨es, clock, hw', F, hs, hD⟩
  obtain ⟨c, hrun, hc, _⟩ := ho.lookup_int (Maps.string_keyed Tryz.underlying9) Tryz.underlying39 Tryz.underlying2 (zero2 w') (WideMaps.keyOf_string_mk Tryz.underlying9 ht)
  rw [hat] at hc
  simp only [DataW.lit.injEq, Lit.int.injEq, true_and] at hc
  rw [hrun, ← hc, hf]

theorem KD.put {w' : World} {M n : Nat} {f : List UInt8 → Nat} {D : DataW Unit} {x : List UInt8} {v : Nat} (hI : Maps.IsMap D) (hat : ∀ t, D.atKey (.string t) (.lit (.int .i64 0)) = .lit (.int .i64 (f t))) (ho : w'.ownsMap Tryz.prog 9 (plainElem Tryz.prog 2) M n (D.put (.string x) (.lit (.int .i64 v)))) :
    KD w' M n (fun t => if x = t then v else f t) := by
  refine ⟨_, ho, hI.put _ _, fun t => ?_⟩
  show _ = DataW.lit (.int .i64 ((if x = t then v else f t : Nat) : Int))
  by_cases h : x = t
  · subst h; rw [if_pos rfl]; exact Maps.atKey_put_same hI (k := .string x) trivial _ _
  · rw [if_neg h, Maps.atKey_put_other (fun e => h (by injection e with e; exact e.symm))]; exact hat t

theorem f_words : Lib.fields [99, 97, 115, 101, 32, 99, 108, 97, 115, 115, 32, 100, 97, 116, 97, 32, 100, 101, 114, 105, 118, 105, 110, 103, 32, 101, 108, 115, 101, 32, 105, 102, 32, 105, 109, 112, 111, 114, 116, 32, 105, 110, 32, 105, 110, 102, 105, 120, 32, 105, 110, 102, 105, 120, 108, 32, 105, 110, 102, 105, 120, 114, 32, 105, 110, 115, 116, 97, 110, 99, 101, 32, 108, 101, 116, 32, 109, 111, 100, 117, 108, 101, 32, 111, 102, 32, 116, 104, 101, 110, 32, 119, 104, 101, 114, 101, 32, 95] = (List.range 18).map (fun j => (wordAt j).data.toList) := by decide
theorem f_marks : Lib.fields [61, 32, 124, 32, 45, 62, 32, 60, 45, 32, 92, 32, 58, 58, 32, 61, 62, 32, 46, 46, 32, 64, 32, 126, 32, 33] = (List.range 11).map (fun j => (markAt j).data.toList) := by decide

def wCells : Array Value := ((List.range 18).map fun j => Value.string (wordAt j)).toArray
def mCells : Array Value := ((List.range 11).map fun j => Value.string (markAt j)).toArray

theorem iWords (w : World) (ht : Lib.TabIs Tryz.prog w "strings.asciiSpace" .u8 Lib.asciiSpaceTab) : Calls Tryz.prog 20 #[.string ⟨#[99, 97, 115, 101, 32, 99, 108, 97, 115, 115, 32, 100, 97, 116, 97, 32, 100, 101, 114, 105, 118, 105, 110, 103, 32, 101, 108, 115, 101, 32, 105, 102, 32, 105, 109, 112, 111, 114, 116, 32, 105, 110, 32, 105, 110, 102, 105, 120, 32, 105, 110, 102, 105, 120, 108, 32, 105, 110, 102, 105, 120, 114, 32, 105, 110, 115, 116, 97, 110, 99, 101, 32, 108, 101, 116, 32, 109, 111, 100, 117, 108, 101, 32, 111, 102, 32, 116, 104, 101, 110, 32, 119, 104, 101, 114, 101, 32, 95]⟩] w fun e w' => e = .returned (.slice (some ⟨w.heap.size, 0, none⟩) 18 18) ∧ w' = w.alloc (.cells wCells 9) := by
  refine (Tryz.strings_Fields _ w (by decide) ?_ ht).mono ?_
  · intro j b hj
    have hall : ∀ b ∈ ([99, 97, 115, 101, 32, 99, 108, 97, 115, 115, 32, 100, 97, 116, 97, 32, 100, 101, 114, 105, 118, 105, 110, 103, 32, 101, 108, 115, 101, 32, 105, 102, 32, 105, 109, 112, 111, 114, 116, 32, 105, 110, 32, 105, 110, 102, 105, 120, 32, 105, 110, 102, 105, 120, 108, 32, 105, 110, 102, 105, 120, 114, 32, 105, 110, 115, 116, 97, 110, 99, 101, 32, 108, 101, 116, 32, 109, 111, 100, 117, 108, 101, 32, 111, 102, 32, 116, 104, 101, 110, 32, 119, 104, 101, 114, 101, 32, 95] : List UInt8), b.toNat < 128 := by decide
    exact hall b (List.mem_of_getElem? hj)
  · rintro e w' ⟨rfl, rfl⟩
    simp only [f_words]
    exact ⟨rfl, rfl⟩
theorem iMarks (w : World) (ht : Lib.TabIs Tryz.prog w "strings.asciiSpace" .u8 Lib.asciiSpaceTab) : Calls Tryz.prog 20 #[.string ⟨#[61, 32, 124, 32, 45, 62, 32, 60, 45, 32, 92, 32, 58, 58, 32, 61, 62, 32, 46, 46, 32, 64, 32, 126, 32, 33]⟩] w fun e w' => e = .returned (.slice (some ⟨w.heap.size, 0, none⟩) 11 11) ∧ w' = w.alloc (.cells mCells 9) := by
  refine (Tryz.strings_Fields _ w (by decide) ?_ ht).mono ?_
  · intro j b hj
    have hall : ∀ b ∈ ([61, 32, 124, 32, 45, 62, 32, 60, 45, 32, 92, 32, 58, 58, 32, 61, 62, 32, 46, 46, 32, 64, 32, 126, 32, 33] : List UInt8), b.toNat < 128 := by decide
    exact hall b (List.mem_of_getElem? hj)
  · rintro e w' ⟨rfl, rfl⟩
    simp only [f_marks]
    exact ⟨rfl, rfl⟩

def Tab (w : World) : Prop := Lib.TabIs Tryz.prog w "strings.asciiSpace" .u8 Lib.asciiSpaceTab
def TabB (B : Nat) (w : World) : Prop := ∀ w', Below B w w' → Tab w'
theorem TabB.next {B : Nat} {w w1 : World} (h : TabB B w) (hb : Below B w w1) : TabB B w1 := fun w' k => h w' (hb.trans k)
theorem TabB.tab {B : Nat} {w : World} (h : TabB B w) : Tab w := h w (Below.refl _ _)

theorem wcell (j : Nat) (hj : j < 18) : wCells[j]? = some (.string (wordAt j)) := by
  unfold wCells
  rw [List.getElem?_toArray, List.getElem?_map, List.getElem?_range hj]
  rfl
theorem mcell (j : Nat) (hj : j < 11) : mCells[j]? = some (.string (markAt j)) := by
  unfold mCells
  rw [List.getElem?_toArray, List.getElem?_map, List.getElem?_range hj]
  rfl
theorem wsize (j : Nat) (hj : j < 18) : (wordAt j).size ≤ maxLen := by
  have key : ∀ j : Fin 18, (wordAt j.val).size ≤ 8 := by decide
  have := key ⟨j, hj⟩
  unfold maxLen; simp only at this; omega
theorem msize (j : Nat) (hj : j < 11) : (markAt j).size ≤ maxLen := by
  have key : ∀ j : Fin 11, (markAt j.val).size ≤ 8 := by decide
  have := key ⟨j, hj⟩
  unfold maxLen; simp only at this; omega

set_option maxHeartbeats 2000000 in
set_option maxRecDepth 100000 in
theorem iKept (w : World) (ht : TabB w.heap.size w) : Calls Tryz.prog 14 #[] w fun e w' => e = .returned (.map (some w.heap.size)) ∧ KM w' w.heap.size ∧ w.heap.size < w'.heap.size ∧ Below w.heap.size w w' := by
  have hmm := @run_makeMap Tryz.prog
  have HT := hide ht
  clear ht
  go_enter Tryz.func14, Tryz.ntmps14
  go_wp2_with fail
  have b0 := below_alloc1 w (.map #[] 0)
  refine (iWords _ (HT.out _ b0)).mono ?_
  rintro e w1 ⟨rfl, rfl⟩
  go_wp2_with fail
  go_loopw [3, 9] (fun _ i wr => ∃ j : Nat, j ≤ 18 ∧ i = .int .i64 j ∧ Hid (KD wr w.heap.size j (kA j 0)) ∧ wr.heap[w.heap.size + 1]? = some (.cells wCells 9 (0, 0)) ∧ w.heap.size + 2 ≤ wr.heap.size ∧ Below w.heap.size w wr) (fun _ i _ => 18 - (intOf i).toNat)
  case atStart =>
    refine ⟨0, by omega, rfl, ?_, ?_, ?_, ?_⟩
    · obtain ⟨D, h1, h2⟩ := KD.start w
      exact ⟨D, h1.alloc _, h2⟩
    · have := heap_new (w.alloc (.map #[] 0)) (.cells wCells 9)
      simpa using this
    · simp
    · exact b0.trans ((below_alloc1 _ _).mono (by simp))
  case round =>
    obtain ⟨j, hj, rfl, HD, hc, hz, hb⟩ := hrel
    by_cases hlt : j < 18
    · have hlt' : (j : Int) < 18 := by omega
      have hcell : wr.cell? ⟨w.heap.size + 1, j, none⟩ = some (.string (wordAt j)) := by rw [Lib.cell_of_heap hc]; exact wcell j hlt
      have hkey := WideMaps.keyOf_string_mk Tryz.underlying9 (wsize j hlt)
      obtain ⟨D, hown, hI, hat⟩ := HD.out
      have HAT := hide hat
      clear hat
      go_wp2_with (first | (at_mapUpdate; refine wpList_mapUpdate_own _ rfl _ _ _ 39 rfl 9 2 (Maps.string_keyed Tryz.underlying9) Tryz.underlying39 _ w.heap.size j D rfl hown (by unfold maxLen; omega) _ _ _ rfl rfl hkey _ [] (plainElem_int Tryz.underlying2 (a := 8) (by decide)) ?_; intro w2 hown2 hg2) | fail)
      go_roundw
      case rel =>
        have hk := KD.put hI HAT.out (v := 8) hown2
        refine ⟨j + 1, by omega, rfl, ?_, ?_, ?_, ?_⟩
        · obtain ⟨D2, k1, k2, k3⟩ := hk
          exact ⟨D2, k1, k2, fun t => by rw [kA_word]; exact k3 t⟩
        · rw [hg2.block _ (by omega) (by simp)]; exact hc
        · exact Nat.le_trans hz hg2.size
        · exact hb.grown hg2 hb.size (fun k hk => by cases hk; exact Nat.le_refl _)
      case measure => simp [intOf]; omega
    · have hlt' : ¬ (j : Int) < 18 := by omega
      obtain rfl : j = 18 := by omega
      obtain ⟨wp, hwp⟩ : ∃ wp, wp = wr := ⟨_, rfl⟩
      subst hwp
      go_wp2_with fail
      refine (iMarks _ (HT.out _ hb)).mono ?_
      rintro e w1 ⟨rfl, rfl⟩
      go_wp2_with fail
      go_loopw [5, 18] (fun _ i wq => ∃ j : Nat, j ≤ 11 ∧ i = .int .i64 j ∧ Hid (KD wq w.heap.size (18 + j) (kA 18 j)) ∧ wq.heap[wp.heap.size]? = some (.cells mCells 9 (0, 0)) ∧ wp.heap.size < wq.heap.size ∧ Below w.heap.size w wq) (fun _ i _ => 11 - (intOf i).toNat)
      case atStart =>
        refine ⟨0, by omega, rfl, ?_, heap_new wp _, by simp, ?_⟩
        · obtain ⟨D, h1, h2⟩ := HD.out
          exact ⟨D, h1.alloc _, h2⟩
        · exact hb.trans ((below_alloc1 _ _).mono (by omega))
      case round =>
        obtain ⟨j, hj, rfl, HD2, hc2, hz2, hb2⟩ := hrel
        by_cases hlt : j < 11
        · have hlt' : (j : Int) < 11 := by omega
          have hcell : wr.cell? ⟨wp.heap.size, j, none⟩ = some (.string (markAt j)) := by rw [Lib.cell_of_heap hc2]; exact mcell j hlt
          have hkey := WideMaps.keyOf_string_mk Tryz.underlying9 (msize j hlt)
          obtain ⟨D, hown, hI, hat⟩ := HD2.out
          have HAT := hide hat
          clear hat
          go_wp2_with (first | (at_mapUpdate; refine wpList_mapUpdate_own _ rfl _ _ _ 39 rfl 9 2 (Maps.string_keyed Tryz.underlying9) Tryz.underlying39 _ w.heap.size (18 + j) D rfl hown (by unfold maxLen; omega) _ _ _ rfl rfl hkey _ [] (plainElem_int Tryz.underlying2 (a := 9) (by decide)) ?_; intro w2 hown2 hg2) | fail)
          go_roundw
          case rel =>
            have hk := KD.put hI HAT.out (v := 9) hown2
            refine ⟨j + 1, by omega, rfl, ?_, ?_, Nat.lt_of_lt_of_le hz2 hg2.size, ?_⟩
            · obtain ⟨D2, k1, k2, k3⟩ := hk
              exact ⟨D2, k1, k2, fun t => by rw [kA_mark]; exact k3 t⟩
            · rw [hg2.block _ hz2 (by simp; omega)]; exact hc2
            · exact hb2.grown hg2 hb2.size (fun k hk => by cases hk; exact Nat.le_refl _)
          case measure => simp [intOf]; omega
        · have hlt' : ¬ (j : Int) < 11 := by omega
          obtain rfl : j = 11 := by omega
          go_wp2_with fail
          go_ret
          exact ⟨rfl, HD2.out.km kA_all, by omega, hb2⟩

end Go.Proofs.YtjfoagmenehapaaGreatDoor

namespace Go.Proofs.YtjfoagmenehapaaGreatDoor
open Go.RowKit Go.Joins

theorem TabB.up {B : Nat} {w w1 : World} (h : TabB B w) (hb : Below B w w1) (hB : B ≤ w1.heap.size) : TabB w1.heap.size w1 := fun w' k => h w' (hb.trans (k.mono hB))

def PostA (q1 q2 q3 : Nat) (T : List To) (w : World) (e : Ending) (w' : World) : Prop :=
  ∃ (ao : Option Addr) (cp n : Nat), e = .returned (.agg #[.int .i64 q1, .int .i64 q2, .int .i64 q3, .slice ao n cp]) ∧ TR w.heap.size w' ao cp n T ∧ Below w.heap.size w w'

end Go.Proofs.YtjfoagmenehapaaGreatDoor

namespace Go.Proofs.YtjfoagmenehapaaGreatDoor
open Go.RowKit Go.Joins

/-- A token as it lies in memory. -/
structure Tq where
  k : Int
  t : ByteArray
  l : Int
  c : Int
/-- Row of n tokens at the head of block g. -/
def Row (w : World) (g n : Nat) (f : Nat → Tq) : Prop := ∀ i, i < n → w.cell? ⟨g, i * 4, none⟩ = some (.int .i64 (f i).k) ∧ w.cell? ⟨g, i * 4 + 1, none⟩ = some (.string (f i).t) ∧ w.cell? ⟨g, i * 4 + 2, none⟩ = some (.int .i64 (f i).l) ∧ w.cell? ⟨g, i * 4 + 3, none⟩ = some (.int .i64 (f i).c)
/-- A slice of n tokens. -/
def Toks (w : World) (ao : Option Addr) (n : Nat) (f : Nat → Tq) : Prop := 0 < n → ∃ g, ao = some ⟨g, 0, none⟩ ∧ Row w g n f ∧ g < w.heap.size

theorem Row.keep {w w' g n f} (h : Row w g n f) (hb : w'.heap[g]? = w.heap[g]?) : Row w' g n f := fun i hi => by
  obtain ⟨h1, h2, h3, h4⟩ := h i hi
  exact ⟨(World.cell?_of_block hb).trans h1, (World.cell?_of_block hb).trans h2, (World.cell?_of_block hb).trans h3, (World.cell?_of_block hb).trans h4⟩
theorem Toks.below {w w' ao n f} {B : Nat} (h : Toks w ao n f) (hb : Below B w w') (hB : ∀ g, ao = some ⟨g, 0, none⟩ → g < B) : Toks w' ao n f := fun hn => by
  obtain ⟨g, e, h1, h2⟩ := h hn
  exact ⟨g, e, h1.keep (hb.block g (hB g e)), Nat.lt_of_lt_of_le h2 hb.size⟩
theorem Toks.next {w w' ao n f} (h : Toks w ao n f) (hb : Below w.heap.size w w') : Toks w' ao n f := fun hn => by
  obtain ⟨g, e, h1, h2⟩ := h hn
  exact ⟨g, e, h1.keep (hb.block g h2), Nat.lt_of_lt_of_le h2 hb.size⟩

end Go.Proofs.YtjfoagmenehapaaGreatDoor

namespace Go.Proofs.YtjfoagmenehapaaGreatDoor
open Go.RowKit Go.Joins

/-- The digits of a number ahead of a text. -/
def dg (k : Nat) (o : ByteArray) : ByteArray := if _h : k = 0 then o else dg (k / 10) (⟨#[UInt8.ofNat (48 + k % 10)]⟩ ++ o)
termination_by k
decreasing_by omega
def mt (k : Nat) : ByteArray := ⟨#[109]⟩ ++ dg k ⟨#[]⟩

end Go.Proofs.YtjfoagmenehapaaGreatDoor

namespace Go.Proofs.YtjfoagmenehapaaGreatDoor
open Go.RowKit Go.Joins

theorem cs {w : World} {g o o' : Nat} {u v : Value} (h : w.cell? ⟨g, o', none⟩ = some u) : (w.setCell ⟨g, o, none⟩ v).cell? ⟨g, o', none⟩ = some (if o' = o then v else u) := by
  by_cases e : o' = o
  · subst e; rw [if_pos rfl]; exact World.cell?_setCell_same _ _ _ h
  · rw [if_neg e]; exact (World.cell?_setCell_other _ _ _ _ (fun hh => e (congrArg Addr.off hh).symm)).trans h

theorem Row.set {w W2 : World} {g n : Nat} {f : Nat → Tq} (h : Row w g n f) (j : Nat) (k l c : Int) (t : ByteArray) (hg : g < w.heap.size) (b2 : Below w.heap.size (w.setCell ⟨g, j * 4, none⟩ (.int .i64 k)) W2) :
    Row (((W2.setCell ⟨g, j * 4 + 1, none⟩ (.string t)).setCell ⟨g, j * 4 + 2, none⟩ (.int .i64 l)).setCell ⟨g, j * 4 + 3, none⟩ (.int .i64 c)) g n (fun i => if i = j then ⟨k, t, l, c⟩ else f i) := fun i hi => by
  obtain ⟨h0, h1, h2, h3⟩ := h i hi
  have go : ∀ o' u, w.cell? ⟨g, o', none⟩ = some u → (((W2.setCell ⟨g, j * 4 + 1, none⟩ (.string t)).setCell ⟨g, j * 4 + 2, none⟩ (.int .i64 l)).setCell ⟨g, j * 4 + 3, none⟩ (.int .i64 c)).cell? ⟨g, o', none⟩ = some (if o' = j * 4 + 3 then .int .i64 c else if o' = j * 4 + 2 then .int .i64 l else if o' = j * 4 + 1 then .string t else if o' = j * 4 then .int .i64 k else u) := fun o' u hu => by
    have a0 := cs (o := j * 4) (v := .int .i64 k) hu
    have a1 := (b2.cell (p := ⟨g, o', none⟩) hg).trans a0
    exact cs (cs (cs a1))
  show _ = some (Value.int .i64 (if i = j then (⟨k, t, l, c⟩ : Tq) else f i).k) ∧ _ = some (Value.string (if i = j then (⟨k, t, l, c⟩ : Tq) else f i).t) ∧ _ = some (Value.int .i64 (if i = j then (⟨k, t, l, c⟩ : Tq) else f i).l) ∧ _ = some (Value.int .i64 (if i = j then (⟨k, t, l, c⟩ : Tq) else f i).c)
  rw [go _ _ h0, go _ _ h1, go _ _ h2, go _ _ h3]
  by_cases e : i = j
  · subst e
    refine ⟨?_, ?_, ?_, ?_⟩
    · rw [if_neg (by omega), if_neg (by omega), if_neg (by omega), if_pos rfl, if_pos rfl]
    · rw [if_neg (by omega), if_neg (by omega), if_pos rfl, if_pos rfl]
    · rw [if_neg (by omega), if_pos rfl, if_pos rfl]
    · rw [if_pos rfl, if_pos rfl]
  · refine ⟨?_, ?_, ?_, ?_⟩ <;> rw [if_neg (by omega), if_neg (by omega), if_neg (by omega), if_neg (by omega), if_neg e]

theorem Row.congr {w : World} {g n : Nat} {f f' : Nat → Tq} (h : Row w g n f) (he : ∀ i, i < n → f i = f' i) : Row w g n f' := fun i hi => by rw [← he i hi]; exact h i hi

theorem grows_of {w w' : World} (h : Below w.heap.size w w') (row : Option Nat) : w.grownBy w' row := ⟨h.os, h.tape, h.output, h.size, fun k hk _ => h.block k hk⟩

/-- The marks from 1 on. -/
def mk (i : Nat) : Tq := ⟨((1 + i * 4 : Nat) : Int), mt (1 + i * 4 + 1), ((1 + i * 4 + 2 : Nat) : Int), ((1 + i * 4 + 3 : Nat) : Int)⟩

end Go.Proofs.YtjfoagmenehapaaGreatDoor

namespace Go.Proofs.YtjfoagmenehapaaGreatDoor
open Go.RowKit Go.Joins

/-- A slice of n tokens of its own, from block B on. -/
def Mine (B : Nat) (w : World) (ao : Option Addr) (n : Nat) (f : Nat → Tq) : Prop := 0 < n → ∃ g, ao = some ⟨g, 0, none⟩ ∧ Row w g n f ∧ g < w.heap.size ∧ B ≤ g ∧ ∀ o, w.frozen? ⟨g, o, none⟩ = false

end Go.Proofs.YtjfoagmenehapaaGreatDoor

namespace Go.Proofs.YtjfoagmenehapaaGreatDoor
open Go.RowKit Go.Joins

def fT (T : List To) (i : Nat) : Tq := match T[i]? with
  | some t => ⟨t.kind, t.text, t.line, t.col⟩
  | none => ⟨0, ⟨#[]⟩, 0, 0⟩

theorem flat_get : ∀ (T : List To) (i : Nat) (t : To), T[i]? = some t → ∀ c, c < 4 → (T.flatMap To.cells)[i * 4 + c]? = t.cells[c]?
  | [], i, t, h, c, hc => by simp at h
  | t0 :: T, 0, t, h, c, hc => by
    have : t0 = t := by simpa using h
    subst this
    rw [List.flatMap_cons, Nat.zero_mul, Nat.zero_add, List.getElem?_append_left (by simp only [To.cells, List.length_cons, List.length_nil]; omega)]
  | t0 :: T, i + 1, t, h, c, hc => by
    have h' : T[i]? = some t := by simpa using h
    have hl : t0.cells.length = 4 := rfl
    rw [List.flatMap_cons, List.getElem?_append_right (by rw [hl]; omega), hl, show (i + 1) * 4 + c - 4 = i * 4 + c by omega]
    exact flat_get T i t h' c hc

theorem TR.mine {B W ao cap n T} (h : TR B W ao cap n T) : Mine B W ao n (fT T) := fun hp => by
  obtain ⟨hn, hl, ⟨-, h0⟩ | ⟨g, cap', cur, e, hB, hb, hc, -, hs, ht⟩⟩ := h
  · omega
  · simp only [Value.slice.injEq] at e
    obtain ⟨rfl, -, rfl⟩ := e
    refine ⟨g, rfl, fun i hi => ?_, (Array.getElem?_eq_some_iff.1 hb).1, hB, fun o => Lib.frozen_of_heap hb o⟩
    obtain ⟨t, hti⟩ : ∃ t, T[i]? = some t := ⟨_, List.getElem?_eq_getElem (by omega)⟩
    have go : ∀ c, c < 4 → W.cell? ⟨g, i * 4 + c, none⟩ = t.cells[c]? := fun c hc => by
      rw [Lib.cell_of_heap hb, ← Array.getElem?_toList, ← flat_get T i t hti c hc, ← ht, List.getElem?_take, if_pos (by omega)]
    unfold fT
    rw [hti]
    exact ⟨go 0 (by omega), go 1 (by omega), go 2 (by omega), go 3 (by omega)⟩

theorem Mine.toks {B w ao n f} (h : Mine B w ao n f) : Toks w ao n f := fun hp => by
  obtain ⟨g, e, h1, h2, -⟩ := h hp
  exact ⟨g, e, h1, h2⟩
theorem Mine.next {B w w' ao n f} (h : Mine B w ao n f) (hb : Below w.heap.size w w') : Mine B w' ao n f := fun hp => by
  obtain ⟨g, e, h1, h2, h3, h4⟩ := h hp
  exact ⟨g, e, h1.keep (hb.block g h2), Nat.lt_of_lt_of_le h2 hb.size, h3, fun o => (hb.frozen (p := ⟨g, o, none⟩) h2).trans (h4 o)⟩

theorem lex_len (s : ByteArray) : ∀ m i, s.size - i ≤ m → i ≤ s.size → (lexF s i).1.length ≤ s.size - i := by
  intro m
  induction m with
  | zero =>
    intro i hm hi
    obtain rfl : i = s.size := by omega
    rw [lex_end]; simp
  | succ m ih =>
    intro i hm hi
    have hg := blank_ge s i hi
    rcases q : (blank s i).2 with _ | _
    · rw [lexF_open hi q]; simp
    · by_cases h2 : s.size ≤ (blank s i).1
      · rw [lexF_end hi q h2]; simp
      · rcases qt : tok s (blank s i).1 with ⟨k, t, n⟩ | c
        · have hl := tok_len (by omega) qt
          rw [lexF_ok hi q (by omega) qt]
          have := ih ((blank s i).1 + n) (by omega) (by omega)
          simp only [List.length_cons]
          omega
        · rw [lexF_bad hi q (by omega) qt]; simp

theorem lexA_len (s : ByteArray) : (lexA s).2.2.2.length ≤ 60000 := by
  unfold lexA
  split
  · simp
  · split
    · have := lex_len s s.size 0 (by omega) (by omega)
      simp only
      omega
    · simp

structure B4 (w : World) (b : Nat) (v0 v1 v2 v3 : Value) : Prop where
  c0 : w.cell? ⟨b, 0, none⟩ = some v0
  c1 : w.cell? ⟨b, 1, none⟩ = some v1
  c2 : w.cell? ⟨b, 2, none⟩ = some v2
  c3 : w.cell? ⟨b, 3, none⟩ = some v3
  lt : b < w.heap.size
theorem B4.keep {w w' b v0 v1 v2 v3} (h : B4 w b v0 v1 v2 v3) (hb : w'.heap[b]? = w.heap[b]?) (hz : w.heap.size ≤ w'.heap.size) : B4 w' b v0 v1 v2 v3 :=
  ⟨(World.cell?_of_block hb).trans h.c0, (World.cell?_of_block hb).trans h.c1, (World.cell?_of_block hb).trans h.c2, (World.cell?_of_block hb).trans h.c3, Nat.lt_of_lt_of_le h.lt hz⟩
theorem B4.new (w : World) (v0 v1 v2 v3 : Value) (t : TypeId) : B4 (w.alloc (.cells #[v0, v1, v2, v3] t)) w.heap.size v0 v1 v2 v3 := ⟨by simp, by simp, by simp, by simp, by simp⟩

/-- What stands while the law runs. -/
structure Fx (w : World) (q1 q2 q3 : Int) (b1 b2 : Nat) (a1 a2 : Option Addr) (n c1 c2 : Nat) (f f2 : Nat → Tq) (wx : World) : Prop where
  p1 : B4 wx b1 (.int .i64 q1) (.int .i64 q2) (.int .i64 q3) (.slice a1 n c1)
  p2 : B4 wx b2 (.int .i64 q1) (.int .i64 q2) (.int .i64 q3) (.slice a2 n c2)
  k1 : Toks wx a1 n f
  k2 : Toks wx a2 n f2
  bel : Below w.heap.size w wx
theorem Fx.next {w q1 q2 q3 b1 b2 a1 a2 n c1 c2 f f2 wx wy} (h : Fx w q1 q2 q3 b1 b2 a1 a2 n c1 c2 f f2 wx) (hb : Below wx.heap.size wx wy) : Fx w q1 q2 q3 b1 b2 a1 a2 n c1 c2 f f2 wy :=
  ⟨h.p1.keep (hb.block _ h.p1.lt) hb.size, h.p2.keep (hb.block _ h.p2.lt) hb.size, h.k1.next hb, h.k2.next hb, h.bel.trans (hb.mono h.bel.size)⟩

end Go.Proofs.YtjfoagmenehapaaGreatDoor

namespace Go.Proofs.YtjfoagmenehapaaGreatDoor
open Go.RowKit Go.Joins

end Go.Proofs.YtjfoagmenehapaaGreatDoor

namespace Go.Proofs.YtjfoagmenehapaaGreatDoor
open Go.RowKit Go.Joins

theorem bt_list {u : ByteArray} {P R : List UInt8} {b : UInt8} (h : u.data.toList = P ++ b :: R) : bt u P.length = b.toNat ∧ P.length < u.size := by
  have hz : u.size = (P ++ b :: R).length := by rw [← h, Array.length_toList]; rfl
  have hlt : P.length < u.size := by rw [hz]; simp
  refine ⟨?_, hlt⟩
  rw [← bt_in hlt]
  have e : u.data.toList[P.length]? = some b := by rw [h]; simp
  have e2 : u.data.toList[P.length]? = some u[P.length] := by
    rw [List.getElem?_eq_getElem (by simpa using hlt)]
    rfl
  rw [e] at e2
  rw [Option.some.inj e2]

theorem quo_list (m : UInt8) (hm : m.toNat = 39 ∨ m.toNat = 34) (u : ByteArray) : ∀ (t P out : List UInt8), u.data.toList = P ++ (t.flatMap (escB m) ++ [m]) →
    quo u m.toNat P.length out = if t.all (fun b => pr b.toNat) then some (out ++ t, u.size) else none
  | [], P, out, h => by
    have h' : u.data.toList = P ++ m :: [] := h
    obtain ⟨h1, h2⟩ := bt_list h'
    have hz : u.size = P.length + 1 := by
      have : u.size = (P ++ [m]).length := by rw [← h', Array.length_toList]; rfl
      simpa using this
    rw [quo, if_neg (by omega), if_pos h1]
    simp [hz]
  | b :: t, P, out, h => by
    rw [List.flatMap_cons] at h
    by_cases e1 : b.toNat = 10
    · have hE : escB m b = [92, 110] := by unfold escB; rw [if_pos e1]
      rw [hE] at h
      have ha : u.data.toList = P ++ 92 :: (110 :: (t.flatMap (escB m) ++ [m])) := by simpa using h
      have hb : u.data.toList = (P ++ [92]) ++ 110 :: (t.flatMap (escB m) ++ [m]) := by simpa using h
      have hc : u.data.toList = (P ++ [92, 110]) ++ (t.flatMap (escB m) ++ [m]) := by simpa using h
      obtain ⟨a1, a2⟩ := bt_list ha
      obtain ⟨b1, b2⟩ := bt_list hb
      have ih := quo_list m hm u t (P ++ [92, 110]) (out ++ [10]) hc
      simp only [List.length_append, List.length_cons, List.length_nil, Nat.zero_add, Nat.reduceAdd] at b1 b2 ih
      have hb10 : b = 10 := UInt8.toNat_inj.1 e1
      have x92 : (92 : UInt8).toNat = 92 := rfl
      have x110 : (110 : UInt8).toNat = 110 := rfl
      rw [quo, if_neg (by omega), if_neg (by omega), if_neg (by omega), if_pos (by omega), if_neg (by omega), b1, x110]
      show quo u m.toNat (P.length + 2) (out ++ [10]) = _
      rw [ih, hb10]
      simp [pr]
    · by_cases e2 : b.toNat = 92 ∨ b = m
      · have hE : escB m b = [92, b] := by unfold escB; rw [if_neg e1, if_pos e2]
        rw [hE] at h
        have ha : u.data.toList = P ++ 92 :: (b :: (t.flatMap (escB m) ++ [m])) := by simpa using h
        have hb : u.data.toList = (P ++ [92]) ++ b :: (t.flatMap (escB m) ++ [m]) := by simpa using h
        have hc : u.data.toList = (P ++ [92, b]) ++ (t.flatMap (escB m) ++ [m]) := by simpa using h
        obtain ⟨a1, a2⟩ := bt_list ha
        obtain ⟨b1, b2⟩ := bt_list hb
        have ih := quo_list m hm u t (P ++ [92, b]) (out ++ [b]) hc
        simp only [List.length_append, List.length_cons, List.length_nil, Nat.zero_add, Nat.reduceAdd] at b1 b2 ih
        have x92 : (92 : UInt8).toNat = 92 := rfl
        have hbn : b.toNat = 92 ∨ b.toNat = 39 ∨ b.toNat = 34 := by
          rcases e2 with h | h
          · exact .inl h
          · rw [h]; exact .inr hm
        have hes : esc b.toNat = some b := by
          unfold esc
          rw [if_neg (by omega)]
          rcases hbn with h | h | h
          · rw [if_pos h]; exact congrArg some (UInt8.toNat_inj.1 h.symm)
          · rw [if_neg (by omega), if_pos h]; exact congrArg some (UInt8.toNat_inj.1 h.symm)
          · rw [if_neg (by omega), if_neg (by omega), if_pos h]; exact congrArg some (UInt8.toNat_inj.1 h.symm)
        have hpr : pr b.toNat = true := by unfold pr; simp; omega
        rw [quo, if_neg (by omega), if_neg (by omega), if_neg (by omega), if_pos (by omega), if_neg (by omega), b1, hes]
        show quo u m.toNat (P.length + 2) (out ++ [b]) = _
        rw [ih]
        simp [hpr]
      · have hE : escB m b = [b] := by unfold escB; rw [if_neg e1, if_neg e2]
        rw [hE] at h
        have ha : u.data.toList = P ++ b :: (t.flatMap (escB m) ++ [m]) := by simpa using h
        have hc : u.data.toList = (P ++ [b]) ++ (t.flatMap (escB m) ++ [m]) := by simpa using h
        obtain ⟨a1, a2⟩ := bt_list ha
        have ih := quo_list m hm u t (P ++ [b]) (out ++ [b]) hc
        simp only [List.length_append, List.length_cons, List.length_nil, Nat.zero_add] at ih
        have hbm : b.toNat ≠ m.toNat := fun h => e2 (.inr (UInt8.toNat_inj.1 h))
        rcases hpr : pr b.toNat with _ | _
        · have hbad : b.toNat < 32 ∨ 126 < b.toNat := by unfold pr at hpr; simp at hpr; omega
          rw [quo, if_neg (by omega), if_neg (by omega), if_pos (by omega)]
          simp [hpr]
        · have hgood : ¬ (b.toNat < 32 ∨ 126 < b.toNat) := by unfold pr at hpr; simp at hpr; omega
          rw [quo, if_neg (by omega), if_neg (by omega), if_neg (by omega), if_neg (by omega), a1, UInt8.ofNat_toNat, ih]
          simp [hpr]

end Go.Proofs.YtjfoagmenehapaaGreatDoor

namespace Go.Proofs.YtjfoagmenehapaaGreatDoor
open Go.RowKit Go.Joins

theorem okT_list (s : ByteArray) : okT s = s.data.toList.all (fun b => pr b.toNat) := by
  unfold okT
  rw [Bool.eq_iff_iff, List.all_eq_true, List.all_eq_true]
  constructor
  · intro h b hb
    obtain ⟨i, hi, rfl⟩ := List.mem_iff_getElem.1 hb
    have hi' : i < s.size := by simpa using hi
    have := h i (List.mem_range.2 hi')
    rw [← bt_in hi'] at this
    exact this
  · intro h i hi
    have hi' : i < s.size := List.mem_range.1 hi
    rw [← bt_in hi']
    refine h _ ?_
    have : s.data.toList[i]'(by simpa using hi') = s[i] := rfl
    rw [← this]
    exact List.getElem_mem _

/-- The text between marks. -/
def escA (m : UInt8) (s : ByteArray) : ByteArray := ⟨(escT m s).toArray⟩
/-- Whether what is written between marks is read as that text. -/
def okQ (m : UInt8) (s : ByteArray) : Bool := okT s && (m.toNat != 39 || s.size == 1)

theorem tok_esc (m : UInt8) (hm : m.toNat = 39 ∨ m.toNat = 34) (s : ByteArray) : tok (escA m s) 0 = if okQ m s = true then .ok (if m.toNat = 39 then 6 else 7) s (escA m s).size else .bad 4 := by
  have hl : (escA m s).data.toList = [] ++ m :: (s.data.toList.flatMap (escB m) ++ [m]) := by simp [escA, escT]
  have hl2 : (escA m s).data.toList = [m] ++ (s.data.toList.flatMap (escB m) ++ [m]) := by simp [escA, escT]
  obtain ⟨h1, h2⟩ := bt_list hl
  have hq := quo_list m hm (escA m s) s.data.toList [m] [] hl2
  simp only [List.length_nil, List.length_cons, Nat.zero_add] at h1 h2 hq
  rw [← okT_list] at hq
  have d1 : sml m.toNat = false := by simp [sml]; omega
  have d2 : cap m.toNat = false := by simp [cap]; omega
  have d3 : dig m.toNat = false := by simp [dig]; omega
  unfold tok
  rw [h1, if_neg (by rw [d1, d2]; decide), if_neg (by rw [d3]; decide), if_pos hm, hq]
  unfold okQ
  rcases q : okT s with _ | _
  · simp
  · simp only [if_true, List.nil_append, Bool.true_and]
    have hlen : s.data.toList.length = s.size := by rw [Array.length_toList]; rfl
    have hs : (⟨s.data.toList.toArray⟩ : ByteArray) = s := by simp
    rw [hlen, hs, Nat.sub_zero]
    by_cases e : m.toNat = 39
    · by_cases e2 : s.size = 1
      · have k : (m.toNat != 39 || s.size == 1) = true := by simp [e2]
        rw [if_neg (by omega), k]
        simp
      · rw [if_pos ⟨e, e2⟩, if_neg (by simp [e, e2])]
    · have k : (m.toNat != 39 || s.size == 1) = true := by simp [e]
      rw [if_neg (fun h => e h.1), k]
      simp

theorem lexF_esc (m : UInt8) (hm : m.toNat = 39 ∨ m.toNat = 34) (s : ByteArray) : lexF (escA m s) 0 = if okQ m s = true then ([⟨if m.toNat = 39 then 6 else 7, s, 1, 1⟩], 0, (escA m s).size) else ([], 4, 0) := by
  have hl : (escA m s).data.toList = [] ++ m :: (s.data.toList.flatMap (escB m) ++ [m]) := by simp [escA, escT]
  obtain ⟨h1, h2⟩ := bt_list hl
  simp only [List.length_nil] at h1 h2
  have hb : blank (escA m s) 0 = (0, true) := stop_of h2 (by omega) (by omega) (by omega) (by omega)
  have ht := tok_esc m hm s
  rcases q : okQ m s with _ | _
  · rw [q, if_neg (by decide)] at ht
    rw [if_neg (by decide), lex_bad h2 hb ht]
  · rw [q, if_pos rfl] at ht
    rw [if_pos rfl, lex_ok h2 hb ht, Nat.zero_add, lex_end]
    rfl

/-- The tokens that are read of what is written between marks. -/
theorem lexA_esc (m : UInt8) (hm : m.toNat = 39 ∨ m.toNat = 34) (s : ByteArray) : (lexA (escA m s)).2.2.2 = if okQ m s = true ∧ (escA m s).size ≤ 60000 then [⟨if m.toNat = 39 then 6 else 7, s, 1, 1⟩] else [] := by
  unfold lexA
  by_cases hz : 60000 < (escA m s).size
  · rw [if_pos hz, if_neg (by omega)]
  · rw [if_neg hz, lexF_esc m hm s]
    rcases q : okQ m s with _ | _
    · simp
    · simp; omega

end Go.Proofs.YtjfoagmenehapaaGreatDoor

namespace Go.Proofs.YtjfoagmenehapaaGreatDoor
open Go.RowKit Go.Joins

/-- Whether a list of tokens is one token of that kind and text. -/
def one (k : Int) (t : ByteArray) : List To → Bool
  | [o] => ((o.kind : Int) == k) && (o.text.toList == t.toList)
  | _ => false

theorem field3 (v0 v1 v2 v3 : Value) (w : World) : (Instr.field 111 (.agg #[v0, v1, v2, v3]) 3).run Tryz.prog w = .ok v3 w := by kernel_rfl

set_option maxHeartbeats 1000000 in
set_option maxRecDepth 100000 in
theorem iIfReadG (q1 q2 q3 : Nat) (T : List To) (hT : T.length ≤ 1048576) (mb : Nat) (k l c : Int) (t x : ByteArray) (w : World) (hm : mb < w.heap.size) (hK : KM w mb)
    (HL : Hid (∀ w1, KM w1 mb → mb < w1.heap.size → Calls Tryz.prog 84 #[.map (some mb), .string x] w1 (PostA q1 q2 q3 T w1))) :
    Calls Tryz.prog 60 #[.map (some mb), .agg #[.int .i64 k, .string t, .int .i64 l, .int .i64 c], .string x] w fun e w' => e = .returned (.string (if one k t T = true then x else ⟨#[]⟩)) ∧ Below w.heap.size w w' := by
  obtain ⟨X, hX⟩ : ∃ X, X = (if one k t T = true then x else (⟨#[]⟩ : ByteArray)) := ⟨_, rfl⟩
  rw [← hX]
  have HX := hide hX
  clear hX
  have b0 := below_alloc1 w (.cells #[.int .i64 k, .string t, .int .i64 l, .int .i64 c] 65)
  have H1 := hide (HL.out _ (hK.below b0 hm) (Nat.lt_of_lt_of_le hm b0.size))
  clear hK
  go_enter Tryz.func60, Tryz.ntmps60
  go_wp2_with fail
  refine H1.out.mono ?_
  rintro e w2 ⟨ao, cp, n, rfl, hTR, b2⟩
  have hb := b0.trans (b2.mono b0.size)
  have hbl : w.heap.size < (w.alloc (.cells #[.int .i64 k, .string t, .int .i64 l, .int .i64 c] 65)).heap.size := by simp
  have y0 : w2.cell? ⟨w.heap.size, 0, none⟩ = some (.int .i64 k) := (b2.cell (p := ⟨w.heap.size, 0, none⟩) hbl).trans (by simp)
  have y1 : w2.cell? ⟨w.heap.size, 1, none⟩ = some (.string t) := (b2.cell (p := ⟨w.heap.size, 1, none⟩) hbl).trans (by simp)
  have hn := hTR.1
  have hM := hTR.mine
  clear hTR H1 b2 hbl
  have hfd := field3 (.int .i64 q1) (.int .i64 q2) (.int .i64 q3) (.slice ao n cp) w2
  by_cases h1 : n = 1
  · subst h1
    obtain ⟨o, rfl⟩ : ∃ o, T = [o] := by
      match T, hn with
      | [o], _ => exact ⟨o, rfl⟩
    obtain ⟨g, rfl, hR, -⟩ := hM (by omega)
    obtain ⟨x0, x1, -, -⟩ := hR 0 (by omega)
    have x0' : w2.cell? ⟨g, 0, none⟩ = some (.int .i64 o.kind) := x0
    have x1' : w2.cell? ⟨g, 1, none⟩ = some (.string o.text) := x1
    clear x0 x1 hR hn hT
    have HO : Hid (one k t [o] = (((o.kind : Int) == k) && (o.text.toList == t.toList))) := rfl
    generalize one k t [o] = R at *
    generalize (o.kind : Int) = ok at *
    generalize o.text = ot at *
    by_cases z1 : ok = k
    · subst z1
      rcases z3 : (ot.toList == t.toList) with _ | _
      · have hR : Hid (X = ⟨#[]⟩) := by unfold Hid; rw [HX.out, HO.out, z3]; simp
        clear HX HO
        go_wp2_with fail
        go_region
        all_goals
          go_wp2_with fail
          go_ret
          exact ⟨by rw [hR.out]; rfl, hb.drew⟩
      · have hR : Hid (X = x) := by unfold Hid; rw [HX.out, HO.out, z3]; simp
        clear HX HO
        go_wp2_with fail
        go_region
        all_goals
          go_wp2_with fail
          go_ret
          exact ⟨by rw [hR.out]; rfl, hb.drew⟩
    · have hR : Hid (X = ⟨#[]⟩) := by unfold Hid; rw [HX.out, HO.out]; simp [z1]
      have z3 : (ok == k) = false := by simpa using z1
      clear HX HO
      go_wp2_with fail
      go_region
      all_goals
        go_wp2_with fail
        go_ret
        exact ⟨by rw [hR.out]; rfl, hb.drew⟩
  · have h1' : ((n : Int) == 1) = false := by simp; omega
    have hR : one k t T = false := by
      match T, hn with
      | [], _ => rfl
      | [o], hn => exact absurd hn h1
      | _ :: _ :: _, _ => rfl
    have HR : Hid (X = ⟨#[]⟩) := by unfold Hid; rw [HX.out, hR]; rfl
    clear hM hn h1 hT HL hR HX
    go_wp2_with fail
    go_region
    all_goals
      go_wp2_with fail
      go_ret
      exact ⟨by rw [HR.out]; rfl, hb.drew⟩

theorem iIfRead (mb : Nat) (k l c : Int) (t x : ByteArray) (w : World) (hm : mb < w.heap.size) (hK : KM w mb) (hx : x.size ≤ 1048576) :
    Calls Tryz.prog 60 #[.map (some mb), .agg #[.int .i64 k, .string t, .int .i64 l, .int .i64 c], .string x] w fun e w' => e = .returned (.string (if one k t (lexA x).2.2.2 = true then x else ⟨#[]⟩)) ∧ Below w.heap.size w w' :=
  iIfReadG _ _ _ _ (Nat.le_trans (lexA_len x) (by omega)) mb k l c t x w hm hK (fun w1 h1 h2 => iLexWith mb x w1 h1 h2 hx)

end Go.Proofs.YtjfoagmenehapaaGreatDoor

namespace Go.Proofs.YtjfoagmenehapaaGreatDoor
open Go.RowKit Go.Joins

theorem iClone (x : ByteArray) (w : World) (hx : x.size ≤ 1048576) : Calls Tryz.prog 59 #[.string x] w fun e w' => e = .returned (.string x) ∧ Below w.heap.size w w' := by
  have := Tryz.stringslite_Clone x w (by omega)
  go_enter Tryz.func59, Tryz.ntmps59
  go_wp2_with fail
  refine this.mono ?_
  rintro e w2 ⟨rfl, b2⟩
  go_wp2_with fail
  go_ret
  exact ⟨rfl, b2⟩

/-- A text if it is read as that token, else nothing. -/
def rd (k : Int) (t x : ByteArray) : ByteArray := if one k t (lexA x).2.2.2 = true then x else ⟨#[]⟩

set_option maxHeartbeats 1000000 in
set_option maxRecDepth 100000 in
theorem iWithElse (mb : Nat) (k l c : Int) (t : ByteArray) (w : World) (hm : mb < w.heap.size) (hK : KM w mb) (ht : t.size ≤ 60000) (n1 : k ≠ 11) (n2 : k ≠ 6) (n3 : k ≠ 7) :
    Calls Tryz.prog 39 #[.map (some mb), .agg #[.int .i64 k, .string t, .int .i64 l, .int .i64 c]] w fun e w' => e = .returned (.string (rd k t t)) ∧ Below w.heap.size w w' := by
  have HR : Hid (∀ wx, Below w.heap.size w wx → Calls Tryz.prog 60 #[.map (some mb), .agg #[.int .i64 k, .string t, .int .i64 l, .int .i64 c], .string t] wx fun e w' => e = .returned (.string (rd k t t)) ∧ Below wx.heap.size wx w') := fun wx hb => iIfRead mb k l c t t wx (Nat.lt_of_lt_of_le hm hb.size) (hK.below hb hm) (by omega)
  have HC : Hid (∀ wx, Calls Tryz.prog 59 #[.string t] wx fun e w' => e = .returned (.string t) ∧ Below wx.heap.size wx w') := fun wx => iClone t wx (by omega)
  generalize rd k t t = X at *
  have ht' : ¬ (60000 : Int) < t.size := by omega
  have z1 : (k == 11) = false := by simpa using n1
  have z2 : (k == 6) = false := by simpa using n2
  have z3 : (k == 7) = false := by simpa using n3
  have b0 := below_alloc1 w (.cells #[.int .i64 k, .string t, .int .i64 l, .int .i64 c] 65)
  have P := B4.new w (.int .i64 k) (.string t) (.int .i64 l) (.int .i64 c) 65
  clear n1 n2 n3 hK
  go_enter Tryz.func39, Tryz.ntmps39
  go_upto_region 11 with fail
  generalize w.alloc (.cells #[.int .i64 k, .string t, .int .i64 l, .int .i64 c] 65) = v at *
  obtain ⟨c0, c1, c2, c3, lt⟩ := id P
  have S0 : v.drew.cell? ⟨w.heap.size, 0, none⟩ = some (.int .i64 k) ∧ v.drew.cell? ⟨w.heap.size, 1, none⟩ = some (.string t) ∧ v.drew.cell? ⟨w.heap.size, 2, none⟩ = some (.int .i64 l) ∧ v.drew.cell? ⟨w.heap.size, 3, none⟩ = some (.int .i64 c) := ⟨c0, c1, c2, c3⟩
  go_region_held3 (fun w' => w'.cell? ⟨w.heap.size, 0, none⟩ = some (.int .i64 k) ∧ w'.cell? ⟨w.heap.size, 1, none⟩ = some (.string t) ∧ w'.cell? ⟨w.heap.size, 2, none⟩ = some (.int .i64 l) ∧ w'.cell? ⟨w.heap.size, 3, none⟩ = some (.int .i64 c)) (first | exact S0 | exact S5 | exact S6) (first
    | (go_at_call 59; refine (HC.out v.drew).mono ?_; rintro e w5 ⟨rfl, b5⟩; have hb5 := b0.drew.trans (b5.mono b0.size); have Q5 := P.keep (b5.block _ lt) b5.size; have S5 : w5.cell? ⟨w.heap.size, 0, none⟩ = some (.int .i64 k) ∧ w5.cell? ⟨w.heap.size, 1, none⟩ = some (.string t) ∧ w5.cell? ⟨w.heap.size, 2, none⟩ = some (.int .i64 l) ∧ w5.cell? ⟨w.heap.size, 3, none⟩ = some (.int .i64 c) := ⟨Q5.c0, Q5.c1, Q5.c2, Q5.c3⟩)
    | (go_at_call 60; refine (HR.out w5 hb5).mono ?_; rintro e w6 ⟨rfl, b6⟩; have hb6 := hb5.trans (b6.mono hb5.size); have Q6 := Q5.keep (b6.block _ Q5.lt) b6.size; have S6 : w6.cell? ⟨w.heap.size, 0, none⟩ = some (.int .i64 k) ∧ w6.cell? ⟨w.heap.size, 1, none⟩ = some (.string t) ∧ w6.cell? ⟨w.heap.size, 2, none⟩ = some (.int .i64 l) ∧ w6.cell? ⟨w.heap.size, 3, none⟩ = some (.int .i64 c) := ⟨Q6.c0, Q6.c1, Q6.c2, Q6.c3⟩))
  all_goals
    go_wp2_with fail
    go_ret
    exact ⟨rfl, hb6⟩

end Go.Proofs.YtjfoagmenehapaaGreatDoor

