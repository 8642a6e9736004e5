import Derived.Deep.RegionHeld3
import Derived.Test.YtcnokpaicnjkfaaKa
namespace Go.Proofs.Ytcnokpaicnjkfaa
open Go.RowKit Go.Joins

set_option maxHeartbeats 1000000 in
set_option maxRecDepth 100000 in
theorem markText (k : Nat) (w : World) (h0 : 0 < k) (hk : k ≤ 4294967296) : Calls Try.prog 37 #[.int .i64 k] w fun e w' => e = .returned (.string (mt k)) ∧ Below w.heap.size w w' := by
  go_enter Try.func37, Try.ntmps37
  go_wp2_with fail
  go_loopw [0, 3] (fun i o wr => ∃ (j : Nat) (s : ByteArray), j ≤ k ∧ i = .int .i64 j ∧ o = .string s ∧ s.size + j ≤ k ∧ Hid (dg j s = dg k ⟨#[]⟩) ∧ Below w.heap.size w wr) (fun i _ _ => (intOf i).toNat)
  case atStart => exact ⟨k, ⟨#[]⟩, Nat.le_refl _, rfl, rfl, by simp [ByteArray.size], rfl, Below.refl _ _⟩
  case round =>
    obtain ⟨j, s, hj, rfl, rfl, hsz, hd, hb⟩ := hrel
    by_cases hlt : 0 < j
    · have hlt' : (0 : Int) < j := by omega
      obtain ⟨r, hr⟩ : ∃ r, r = j % 10 := ⟨_, rfl⟩
      obtain ⟨q, hq⟩ : ∃ q, q = j / 10 := ⟨_, rfl⟩
      have hr' : (j : Int).tmod 10 = r := by rw [hr, Int.tmod_eq_emod_of_nonneg (by omega)]; omega
      have hq' : (j : Int).tdiv 10 = q := by rw [hq, Int.tdiv_eq_ediv_of_nonneg (by omega)]; omega
      have hrl : r < 10 := by omega
      have hql : q < j := by omega
      have HDG : Hid (dg q (⟨#[UInt8.ofNat (48 + r)]⟩ ++ s) = dg k ⟨#[]⟩) := by
        unfold Hid
        rw [← hd.out, dg.eq_def j s, dif_neg (by omega), hr, hq]
      have hss : ((⟨#[UInt8.ofNat (48 + r)]⟩ : ByteArray) ++ s).size = s.size + 1 := by
        rw [ByteArray.size_append]
        show 1 + s.size = _
        omega
      clear hr hq
      have hcv : (convert 106 9 (.slice (some ⟨wr.heap.size, 0, none⟩) 1 1)).run Try.prog (wr.alloc (.cells #[.int .u8 (48 + (r : Int))] 5)) = .ok (.string ⟨#[UInt8.ofNat (48 + r)]⟩) (wr.alloc (.cells #[.int .u8 (48 + (r : Int))] 5)) :=
        run_convert_bytes_back (P := Try.prog) (wr.alloc (.cells #[.int .u8 (48 + (r : Int))] 5)) 106 9 5 ⟨wr.heap.size, 0, none⟩ 1 [UInt8.ofNat (48 + r)] Try.underlying106 Try.underlying5 Try.underlying9 (fun j hj => by
          have : j = 0 := by simpa using hj
          subst this
          have hm : (48 + r) % 256 = 48 + r := Nat.mod_eq_of_lt (by omega)
          show (wr.alloc _).cell? _ = _
          simp [Addr.add, hm])
      generalize hG : UInt8.ofNat (48 + r) = G at *
      go_wp2_with fail
      go_roundw
      case rel => exact ⟨q, ⟨#[G]⟩ ++ s, by omega, rfl, rfl, by rw [hss]; omega, HDG, hb.trans ((below_alloc1 _ _).mono hb.size)⟩
      case measure => simp [intOf]; omega
    · have hlt' : ¬ (0 : Int) < j := by omega
      obtain rfl : j = 0 := by omega
      have hd' := hd.out
      rw [dg, dif_pos rfl] at hd'
      subst hd'
      go_wp2_with fail
      go_ret
      exact ⟨rfl, hb⟩

end Go.Proofs.Ytcnokpaicnjkfaa
