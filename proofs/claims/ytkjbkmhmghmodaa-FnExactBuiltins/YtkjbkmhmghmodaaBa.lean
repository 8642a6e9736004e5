import Derived.Test.YtkjbkmhmghmodaaUv
import Derived.Test.YtkjbkmhmghmodaaKa
import Derived.Test.YtkjbkmhmghmodaaShelg
import Derived.Deep.DeepCutAuto
namespace Go.Proofs.Ytkjbkmhmghmodaa
open Go.RowKit Go.Joins

/-- The name of a tuple. -/
def tupS (n : Nat) : ByteArray := ⟨#[40]⟩ ++ ⟨(List.replicate (n - 1) 44).toArray⟩ ++ ⟨#[41]⟩

theorem rep_one : ∀ c, Lib.repeatL [44] c = List.replicate c 44
  | 0 => rfl
  | c + 1 => by rw [Lib.repeatL, rep_one c]; rfl

theorem rep_next (k : Nat) : (⟨#[40]⟩ ++ ⟨(List.replicate k 44).toArray⟩ : ByteArray) ++ ⟨#[44]⟩ = ⟨#[40]⟩ ++ ⟨(List.replicate (k + 1) 44).toArray⟩ := by
  apply ByteArray.ext
  simp [ByteArray.data_append, List.replicate_succ']

set_option maxRecDepth 100000 in
theorem i_tuple (n : Nat) (W : World) (hn : n ≤ 7) : Calls Try.prog 81 #[.int .i64 n] W fun e W' => e = .returned (.string (tupS n)) ∧ Below W.heap.size W W' := by
  have H0 := Try.strings_Repeat ⟨#[44]⟩ (n - 1) W (by omega) (by simp [ByteArray.size]; omega)
  have e : ((n - 1 : Nat) : Int) = max ((n : Int) - 1) 0 := by omega
  rw [e] at H0
  have e2 : (Lib.repeatL (ByteArray.data ⟨#[44]⟩).toList (n - 1)) = List.replicate (n - 1) 44 := rep_one _
  rw [e2] at H0
  have H := hide H0
  have HS : Hid (tupS n = ⟨#[40]⟩ ++ ⟨(List.replicate (n - 1) 44).toArray⟩ ++ ⟨#[41]⟩) := rfl
  clear H0 e e2
  obtain ⟨r, hr⟩ : ∃ r : ByteArray, ⟨(List.replicate (n - 1) 44).toArray⟩ = r := ⟨_, rfl⟩
  have hsz : r.size ≤ 7 := by rw [← hr]; simp [ByteArray.size]; omega
  rw [hr] at H HS
  clear hr
  go_enter Try.func81, Try.ntmps81
  go_wp2_with fail
  refine H.out.mono ?_
  rintro e w1 ⟨rfl, b1⟩
  have HB := hide b1
  clear b1 H
  go_wp2_with fail
  go_ret
  rw [HS.out]
  exact ⟨rfl, HB.out⟩

set_option maxRecDepth 100000 in
theorem m_tuple (n : Nat) (W : World) (hn : n ≤ 7) : Calls Try.prog 33 #[.int .i64 n] W fun e W' => e = .returned (.string (tupS n)) ∧ W' = W := by
  go_enter Try.func33, Try.ntmps33
  go_wp2_with fail
  go_loopw [3, 4] (fun s3 s4 wr => wr = W ∧ ∃ (i : Nat) (r : ByteArray), s3 = .string r ∧ s4 = .int .i64 i ∧ 1 ≤ i ∧ i ≤ max n 1 ∧ Hid (r = ⟨#[40]⟩ ++ ⟨(List.replicate (i - 1) 44).toArray⟩) ∧ r.size ≤ i) (fun _ s4 _ => 8 - (intOf s4).toNat)
  case atStart => exact ⟨rfl, 1, _, rfl, rfl, Nat.le_refl _, by omega, by unfold Hid; apply ByteArray.ext; simp [ByteArray.data_append], by decide⟩
  case round =>
    obtain ⟨rfl, i, r, rfl, rfl, h1, h2, hr, hs⟩ := hrel
    by_cases hi : i < n
    · have hii : (i : Int) < n := by omega
      go_wp2_with fail
      go_roundw
      case rel =>
        refine ⟨trivial, i + 1, _, rfl, by go_num, by omega, by omega, ?_, ?_⟩
        · show _ = _
          rw [hr.out, rep_next, Nat.sub_add_cancel h1, Nat.add_sub_cancel]
        · rw [ByteArray.size_append]
          have : (⟨#[44]⟩ : ByteArray).size = 1 := rfl
          omega
      case measure => simp [intOf]; omega
    · have hii : ¬ (i : Int) < n := by omega
      go_wp2_with fail
      go_ret
      have e : i - 1 = n - 1 := by omega
      rw [hr.out, e]
      exact ⟨rfl, rfl⟩

end Go.Proofs.Ytkjbkmhmghmodaa
