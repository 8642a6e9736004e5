import Derived.Test.YtpcnmolncoaddaaRead5
namespace Go.Proofs.Ytpcnmolncoaddaa
open Go.RowKit Go.Joins

set_option maxHeartbeats 4000000 in
set_option maxRecDepth 100000 in
theorem sBad_e (s : ByteArray) (w : World) (_hs : s.size ≤ 1048576) (f1 : (s.toList == []) = true) :
    Calls Try.prog 40 #[.string s] w fun e w' => e = .returned (.agg #[.int .i64 1, .bool false, .slice none 0 0]) ∧ Below w.heap.size w w' := by
  have r1 := Res3.start w (.int .i64 0) (.bool false) (.slice none 0 0) 28
  have bel := below_alloc1 w (.cells #[.int .i64 0, .bool false, .slice none 0 0] 28)
  obtain ⟨c0, c1, c2, f0, f1', f2', lt⟩ := id r1
  go_enter Try.func40, Try.ntmps40
  go_wp2_with fail
  all_goals
    refine bodyPost_ret (v := .agg #[.int .i64 1, .bool false, .slice none 0 0]) (by simp [results, Try.results40, go_sem]) rfl ⟨rfl, ?_⟩
    exact below_alloc1 _ _

set_option maxHeartbeats 4000000 in
set_option maxRecDepth 100000 in
theorem sBad_m0 (s : ByteArray) (w : World) (hs : s.size ≤ 1048576) (f1 : (s.toList == []) = false) (hp : 0 < s.size) (f2 : ((s[0].toNat : Int) == 45) = true) (g1 : ((s.extract 1 s.size).toList == []) = true) :
    Calls Try.prog 40 #[.string s] w fun e w' => e = .returned (.agg #[.int .i64 1, .bool false, .slice none 0 0]) ∧ Below w.heap.size w w' := by
  have r1 := Res3.start w (.int .i64 0) (.bool false) (.slice none 0 0) 28
  have bel := below_alloc1 w (.cells #[.int .i64 0, .bool false, .slice none 0 0] 28)
  obtain ⟨c0, c1, c2, f0, f1', f2', lt⟩ := id r1
  go_enter Try.func40, Try.ntmps40
  go_wp2_with fail
  all_goals
    refine bodyPost_ret (v := .agg #[.int .i64 1, .bool false, .slice none 0 0]) (by simp [results, Try.results40, go_sem]) rfl ⟨rfl, ?_⟩
    exact below_alloc1 _ _

set_option maxHeartbeats 4000000 in
set_option maxRecDepth 100000 in
theorem sBad_m1 (s : ByteArray) (w : World) (hs : s.size ≤ 1048576) (f1 : (s.toList == []) = false) (hp : 0 < s.size) (f2 : ((s[0].toNat : Int) == 45) = true) (g1 : ((s.extract 1 s.size).toList == []) = false) (gq : 1 < s.size) (gp : 0 < (s.extract 1 s.size).size) (_gs : (s.extract 1 s.size).size ≤ 1048576) (f3 : (((s.extract 1 s.size)[0].toNat : Int) == 48) = true) :
    Calls Try.prog 40 #[.string s] w fun e w' => e = .returned (.agg #[.int .i64 1, .bool false, .slice none 0 0]) ∧ Below w.heap.size w w' := by
  have r1 := Res3.start w (.int .i64 0) (.bool false) (.slice none 0 0) 28
  have bel := below_alloc1 w (.cells #[.int .i64 0, .bool false, .slice none 0 0] 28)
  obtain ⟨c0, c1, c2, f0, f1', f2', lt⟩ := id r1
  go_enter Try.func40, Try.ntmps40
  go_wp2_with fail
  all_goals
    refine bodyPost_ret (v := .agg #[.int .i64 1, .bool false, .slice none 0 0]) (by simp [results, Try.results40, go_sem]) rfl ⟨rfl, ?_⟩
    exact below_alloc1 _ _

set_option maxHeartbeats 4000000 in
set_option maxRecDepth 100000 in
theorem sBad_b1 (s : ByteArray) (w : World) (hs : s.size ≤ 1048576) (f1 : (s.toList == []) = false) (hp : 0 < s.size) (f2 : ((s[0].toNat : Int) == 45) = false) (f3 : ((s[0].toNat : Int) == 48) = true) (hz : 1 < s.size) :
    Calls Try.prog 40 #[.string s] w fun e w' => e = .returned (.agg #[.int .i64 1, .bool false, .slice none 0 0]) ∧ Below w.heap.size w w' := by
  have r1 := Res3.start w (.int .i64 0) (.bool false) (.slice none 0 0) 28
  have bel := below_alloc1 w (.cells #[.int .i64 0, .bool false, .slice none 0 0] 28)
  obtain ⟨c0, c1, c2, f0, f1', f2', lt⟩ := id r1
  go_enter Try.func40, Try.ntmps40
  go_wp2_with fail
  all_goals
    refine bodyPost_ret (v := .agg #[.int .i64 1, .bool false, .slice none 0 0]) (by simp [results, Try.results40, go_sem]) rfl ⟨rfl, ?_⟩
    exact below_alloc1 _ _

set_option maxHeartbeats 4000000 in
set_option maxRecDepth 100000 in
theorem sBad_b2 (s : ByteArray) (w : World) (hs : s.size ≤ 1048576) (f1 : (s.toList == []) = false) (hp : 0 < s.size) (f2 : ((s[0].toNat : Int) == 45) = false) (f3 : ((s[0].toNat : Int) == 48) = false) (p : Nat) (hpl : p < s.size) (HG : Hid (∀ i, i < p → 48 ≤ bt s i ∧ bt s i ≤ 57)) (HB : Hid (bt s p < 48 ∨ 57 < bt s p)) :
    Calls Try.prog 40 #[.string s] w fun e w' => e = .returned (.agg #[.int .i64 1, .bool false, .slice none 0 0]) ∧ Below w.heap.size w w' := by
  have r1 := Res3.start w (.int .i64 0) (.bool false) (.slice none 0 0) 28
  have bel := below_alloc1 w (.cells #[.int .i64 0, .bool false, .slice none 0 0] 28)
  obtain ⟨c0, c1, c2, f0, f1', f2', lt⟩ := id r1
  go_enter Try.func40, Try.ntmps40
  go_wp2_with fail
  generalize w.alloc (.cells #[.int .i64 0, .bool false, .slice none 0 0] 28) = wa at *
  skip
  go_loop [5] (fun s5 => ∃ k : Nat, k ≤ p ∧ s5 = .int .i64 k) (fun s5 => s.size - (intOf s5).toNat)
  case atStart => exact ⟨0, Nat.zero_le _, rfl⟩
  case round =>
    obtain ⟨k, hk, rfl⟩ := hrel
    have hlt : k < s.size := by omega
    have hb := bt_in hlt
    by_cases hkp : k < p
    · have hd := HG.out k hkp
      rw [← hb] at hd
      obtain ⟨hd1, hd2⟩ := hd
      clear hb
      go_wp2_with fail
      go_round
      case rel => exact ⟨k + 1, by omega, by go_num⟩
      case measure => simp [intOf]; omega
    · obtain rfl : k = p := by omega
      rcases HB.out with hB | hB
      · have hB' : s[k].toNat < 48 := by omega
        clear hb hB HB
        go_wp2_with fail
        refine bodyPost_ret (v := .agg #[.int .i64 1, .bool false, .slice none 0 0]) (by simp [results, Try.results40, go_sem, c0, c1, c2]) rfl ⟨rfl, ?_⟩
        exact ((bel.setCell (by show _ ≤ w.heap.size; omega) _).setCell (by show _ ≤ w.heap.size; omega) _).setCell (by show _ ≤ w.heap.size; omega) _
      · have hB' : 57 < s[k].toNat := by omega
        clear hb hB HB
        go_wp2_with fail
        refine bodyPost_ret (v := .agg #[.int .i64 1, .bool false, .slice none 0 0]) (by simp [results, Try.results40, go_sem, c0, c1, c2]) rfl ⟨rfl, ?_⟩
        exact ((bel.setCell (by show _ ≤ w.heap.size; omega) _).setCell (by show _ ≤ w.heap.size; omega) _).setCell (by show _ ≤ w.heap.size; omega) _

set_option maxHeartbeats 4000000 in
set_option maxRecDepth 100000 in
theorem sBad_m2 (s : ByteArray) (w : World) (hs : s.size ≤ 1048576) (f1 : (s.toList == []) = false) (hp : 0 < s.size) (f2 : ((s[0].toNat : Int) == 45) = true) (g1 : ((s.extract 1 s.size).toList == []) = false) (gq : 1 < s.size) (gp : 0 < (s.extract 1 s.size).size) (gs : (s.extract 1 s.size).size ≤ 1048576) (f3 : (((s.extract 1 s.size)[0].toNat : Int) == 48) = false) (p : Nat) (hpl : p < (s.extract 1 s.size).size) (HG : Hid (∀ i, i < p → 48 ≤ bt (s.extract 1 s.size) i ∧ bt (s.extract 1 s.size) i ≤ 57)) (HB : Hid (bt (s.extract 1 s.size) p < 48 ∨ 57 < bt (s.extract 1 s.size) p)) :
    Calls Try.prog 40 #[.string s] w fun e w' => e = .returned (.agg #[.int .i64 1, .bool false, .slice none 0 0]) ∧ Below w.heap.size w w' := by
  have r1 := Res3.start w (.int .i64 0) (.bool false) (.slice none 0 0) 28
  have bel := below_alloc1 w (.cells #[.int .i64 0, .bool false, .slice none 0 0] 28)
  obtain ⟨c0, c1, c2, f0, f1', f2', lt⟩ := id r1
  go_enter Try.func40, Try.ntmps40
  go_wp2_with fail
  generalize w.alloc (.cells #[.int .i64 0, .bool false, .slice none 0 0] 28) = wa at *
  generalize (((s.extract 1 s.size)[0].toNat : Nat) : Int) = X0 at *
  generalize s.extract 1 s.size = D at *
  go_loop [5] (fun s5 => ∃ k : Nat, k ≤ p ∧ s5 = .int .i64 k) (fun s5 => D.size - (intOf s5).toNat)
  case atStart => exact ⟨0, Nat.zero_le _, rfl⟩
  case round =>
    obtain ⟨k, hk, rfl⟩ := hrel
    have hlt : k < D.size := by omega
    have hb := bt_in hlt
    by_cases hkp : k < p
    · have hd := HG.out k hkp
      rw [← hb] at hd
      obtain ⟨hd1, hd2⟩ := hd
      clear hb
      go_wp2_with fail
      go_round
      case rel => exact ⟨k + 1, by omega, by go_num⟩
      case measure => simp [intOf]; omega
    · obtain rfl : k = p := by omega
      rcases HB.out with hB | hB
      · have hB' : D[k].toNat < 48 := by omega
        clear hb hB HB
        go_wp2_with fail
        refine bodyPost_ret (v := .agg #[.int .i64 1, .bool false, .slice none 0 0]) (by simp [results, Try.results40, go_sem, c0, c1, c2]) rfl ⟨rfl, ?_⟩
        exact ((bel.setCell (by show _ ≤ w.heap.size; omega) _).setCell (by show _ ≤ w.heap.size; omega) _).setCell (by show _ ≤ w.heap.size; omega) _
      · have hB' : 57 < D[k].toNat := by omega
        clear hb hB HB
        go_wp2_with fail
        refine bodyPost_ret (v := .agg #[.int .i64 1, .bool false, .slice none 0 0]) (by simp [results, Try.results40, go_sem, c0, c1, c2]) rfl ⟨rfl, ?_⟩
        exact ((bel.setCell (by show _ ≤ w.heap.size; omega) _).setCell (by show _ ≤ w.heap.size; omega) _).setCell (by show _ ≤ w.heap.size; omega) _

end Go.Proofs.Ytpcnmolncoaddaa
