import Derived.Test.YtcmelghjoapglaaFB
namespace Go.Proofs.Ytcmelghjoapglaa
open Go.RowKit Go.Joins

/-- The first entry of that name. -/
def fnd : List Fx → ByteArray → Option Fx
  | [], _ => none
  | x :: r, t => if x.nm = t then some x else fnd r t

/-- What counts where nothing is told. -/
def dft (t : ByteArray) : Fx := if t = ⟨#[58]⟩ then ⟨t, 2, 5⟩ else ⟨t, 1, 9⟩

def fxOf (L : List Fx) (t : ByteArray) : Fx := (fnd L t).getD (dft t)

theorem fnd_app (L G : List Fx) (t : ByteArray) : fnd (L ++ G) t = (fnd L t).or (fnd G t) := by
  induction L with
  | nil => rfl
  | cons x r ih =>
    simp only [List.cons_append, fnd]
    split
    · rfl
    · exact ih

theorem fnd_nm {L : List Fx} {t : ByteArray} {x : Fx} (h : fnd L t = some x) : x.nm = t ∧ x ∈ L := by
  induction L with
  | nil => cases h
  | cons y r ih =>
    simp only [fnd] at h
    split at h
    · rename_i e; cases h; exact ⟨e, List.mem_cons_self⟩
    · exact ⟨(ih h).1, List.mem_cons_of_mem _ (ih h).2⟩

theorem fnd_drop {L : List Fx} {i : Nat} {x : Fx} (h : L[i]? = some x) (t : ByteArray) : fnd (L.drop i) t = if x.nm = t then some x else fnd (L.drop (i + 1)) t := by
  obtain ⟨hl, rfl⟩ := List.getElem?_eq_some_iff.1 h
  rw [List.drop_eq_getElem_cons hl]
  rfl

theorem list_eq {a b : ByteArray} : a.toList = b.toList ↔ a = b := by
  refine ⟨fun h => ?_, fun h => by rw [h]⟩
  rw [Lib.toList_data, Lib.toList_data] at h
  exact ByteArray.ext (Array.ext' h)

theorem list_ne {a b : ByteArray} (h : a ≠ b) : (a.toList == b.toList) = false := by
  rw [beq_eq_false_iff_ne]
  exact fun e => h (list_eq.1 e)

theorem list58 : (⟨#[58]⟩ : ByteArray).toList = [58] := by rw [Lib.toList_data]

theorem ne58 {a : ByteArray} (h : a ≠ ⟨#[58]⟩) : (a.toList == [58]) = false := by
  rw [← list58]
  exact list_ne h

set_option maxHeartbeats 1000000 in
set_option maxRecDepth 100000 in
theorem spec_of (L : List Fx) (t : ByteArray) (W : World) (a : Option Addr) (cap : Nat) (hs : FSl W W.heap.size a cap L) :
    Calls Try.prog 5 #[.slice a L.length cap, .string t] W fun e W' => e = .returned (fv (fxOf L t)) ∧ Below W.heap.size W W' := by
  have hmx : L.length ≤ 9223372036854775807 := by have h2 := hs.len; have h3 := hs.cap; simp only [maxLen] at h3; omega
  go_enter Try.func5, Try.ntmps5
  go_wp2_with fail
  have q0 := Box3.new W (.string ⟨#[]⟩) (.int .i64 0) (.int .i64 0) 25
  have b0 := below_alloc1 W (.cells #[.string ⟨#[]⟩, .int .i64 0, .int .i64 0] 25)
  have z0 : (W.alloc (.cells #[.string ⟨#[]⟩, .int .i64 0, .int .i64 0] 25)).heap.size = W.heap.size + 1 := by simp
  generalize W.alloc (.cells #[.string ⟨#[]⟩, .int .i64 0, .int .i64 0] 25) = W0 at *
  go_loopw [5] (fun s5 wr => ∃ i : Nat, s5 = .int .i64 i ∧ i ≤ L.length ∧ Hid (fnd (L.drop i) t = fnd L t) ∧ wr = W0) (fun s5 _ => L.length - (intOf s5).toNat)
  case atStart => exact ⟨0, rfl, by omega, rfl, rfl⟩
  case round =>
    obtain ⟨i, rfl, hi, hf, rfl⟩ := hrel
    obtain ⟨-, d0, d1, d2, e0, e1, e2⟩ := id q0
    by_cases hl : i < L.length
    · obtain ⟨x, hx⟩ : ∃ x, L[i]? = some x := ⟨L[i], by simp [hl]⟩
      obtain ⟨b, o, rfl, hb, hrw⟩ := hs.row (by omega)
      obtain ⟨c1, c2, c3⟩ := (hrw.below b0 hb) i x hx
      have hl' : (i : Int) < L.length := by omega
      have hd := hide (fnd_drop hx t)
      obtain ⟨nm, sd, lv⟩ := x
      simp only at c1 c2 c3
      by_cases hn : nm = t
      · subst hn
        go_wp2_with fail
        refine bodyPost_ret (v := .agg #[.string nm, .int .i64 sd, .int .i64 lv]) (by simp [results, Try.results5, go_sem, d0, d1, d2]) rfl ⟨?_, ?_⟩
        · unfold fxOf
          rw [← hf.out, hd.out]
          simp [fv]
        · refine ((b0.setCell ?_ _).setCell ?_ _).setCell ?_ _ <;> simp
      · have hn' := list_ne hn
        have HN := hide (if_neg hn : (if nm = t then some (⟨nm, sd, lv⟩ : Fx) else fnd (L.drop (i + 1)) t) = fnd (L.drop (i + 1)) t)
        go_wp2_with fail
        go_roundw
        case rel => exact ⟨i + 1, by go_num, by omega, (hf.out.symm.trans (hd.out.trans HN.out)).symm, trivial⟩
        case measure => simp [intOf]; omega
    · obtain rfl : i = L.length := by omega
      rw [List.drop_length] at hf
      by_cases h58 : t = ⟨#[58]⟩
      · have hh := hide (show fxOf L t = ⟨t, 2, 5⟩ by unfold fxOf; rw [← hf.out]; simp [fnd, dft, h58])
        clear hf
        subst h58
        go_wp2_with fail
        rw [hh.out]
        refine bodyPost_ret (v := .agg #[.string ⟨#[58]⟩, .int .i64 2, .int .i64 5]) (by simp [results, Try.results5, go_sem, d0, d1, d2]) rfl ⟨rfl, ?_⟩
        refine ((b0.setCell ?_ _).setCell ?_ _).setCell ?_ _ <;> simp
      · have hh := hide (show fxOf L t = ⟨t, 1, 9⟩ by unfold fxOf; rw [← hf.out]; simp [fnd, dft, h58])
        have h58' := ne58 h58
        clear hf
        go_wp2_with fail
        rw [hh.out]
        refine bodyPost_ret (v := .agg #[.string t, .int .i64 1, .int .i64 9]) (by simp [results, Try.results5, go_sem, d0, d1, d2]) rfl ⟨rfl, ?_⟩
        refine ((b0.setCell ?_ _).setCell ?_ _).setCell ?_ _ <;> simp

end Go.Proofs.Ytcmelghjoapglaa
