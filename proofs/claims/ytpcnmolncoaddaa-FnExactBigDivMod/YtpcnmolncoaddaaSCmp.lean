import Derived.Test.YtpcnmolncoaddaaCmp
namespace Go.Proofs.Ytpcnmolncoaddaa
open Go.RowKit Go.Joins

set_option maxHeartbeats 400000 in
theorem limb_any (v : Value) (n : Nat) (f : Nat → Nat) (i : Nat) (w : World) (hL : Lim w v n f) (hn : n ≤ 1048576) :
    Calls Try.prog 72 #[v, .int .i64 i] w fun e w' => e = .returned (.int .u64 (ext n f i)) ∧ w = w' := by
  obtain ⟨a, c, rfl, h1, h2, h3, h4⟩ := hL
  by_cases hi : i < n
  · obtain ⟨b, off, rfl, h5⟩ := h4 (by omega)
    have g := h5 i hi
    have hlt := h3 i hi
    have e : ext n f i = f i := by simp [ext, hi]
    rw [e]
    clear h3 h4 h5 e
    go_enter Try.func72, Try.ntmps72
    go_wp2
    go_ret
    exact ⟨rfl, rfl⟩
  · have e : ext n f i = 0 := by simp [ext, hi]
    rw [e]
    clear h3 h4 e
    go_enter Try.func72, Try.ntmps72
    go_wp2
    go_ret
    exact ⟨rfl, rfl⟩

set_option maxHeartbeats 1000000 in
theorem sCmp_lt (v v' : Value) (n m : Nat) (f g : Nat → Nat) (w : World) (hL : Lim w v n f) (hL' : Lim w v' m g) (hn : n ≤ 1048576) (hm : m ≤ 1048576) (hnm : n < m) :
    Calls Try.prog 83 #[v, v'] w fun e w' => e = .returned (.int .i64 (cmpF (ext n f) (ext m g) m)) ∧ w = w' := by
  obtain ⟨a, c, rfl, -⟩ := id hL
  obtain ⟨a', c', rfl, -⟩ := id hL'
  go_enter Try.func83, Try.ntmps83
  go_wp2_with fail
  go_loop [6] (fun i => ∃ k : Nat, k ≤ m ∧ i = .int .i64 ((k : Int) - 1) ∧ cmpF (ext n f) (ext m g) k = cmpF (ext n f) (ext m g) m) (fun i => (intOf i + 1).toNat)
  case atStart => exact ⟨m, Nat.le_refl _, rfl, rfl⟩
  case round =>
    obtain ⟨k, hk, rfl, he⟩ := hrel
    have He : Hid (cmpF (ext n f) (ext m g) k = cmpF (ext n f) (ext m g) m) := he
    clear he
    rcases Nat.eq_zero_or_pos k with hz | hp
    · subst hz
      go_wp2_with fail
      go_ret
      exact ⟨ret_int (by rw [← He.out]; rfl), rfl⟩
    · obtain ⟨j, rfl⟩ : ∃ j, k = j + 1 := ⟨k - 1, by omega⟩
      have ei : (((j + 1 : Nat) : Int) - 1) = (j : Int) := by omega
      rw [ei]
      clear ei
      by_cases h1 : ext n f j < ext m g j
      · have H : Hid (cmpF (ext n f) (ext m g) m = -1) := by rw [← He.out]; simp [cmpF, h1, Hid]
        clear He
        go_wp2_with fail
        refine (limb_any _ n f j w hL hn).mono ?_
        rintro e w' ⟨rfl, rfl⟩
        go_wp2_with fail
        refine (limb_any _ m g j _ hL' hm).mono ?_
        rintro e w' ⟨rfl, rfl⟩
        go_wp2_with fail
        go_ret
        exact ⟨ret_int (by rw [H.out]), rfl⟩
      · by_cases h2 : ext m g j < ext n f j
        · have H : Hid (cmpF (ext n f) (ext m g) m = 1) := by rw [← He.out]; simp [cmpF, h1, h2, Hid]
          clear He
          go_wp2_with fail
          refine (limb_any _ n f j _ hL hn).mono ?_
          rintro e w' ⟨rfl, rfl⟩
          go_wp2_with fail
          refine (limb_any _ m g j _ hL' hm).mono ?_
          rintro e w' ⟨rfl, rfl⟩
          go_wp2_with fail
          go_ret
          exact ⟨ret_int (by rw [H.out]), rfl⟩
        · have H : Hid (cmpF (ext n f) (ext m g) j = cmpF (ext n f) (ext m g) m) := by rw [← He.out]; simp [cmpF, h1, h2, Hid]
          clear He
          go_wp2_with fail
          refine (limb_any _ n f j _ hL hn).mono ?_
          rintro e w' ⟨rfl, rfl⟩
          go_wp2_with fail
          refine (limb_any _ m g j _ hL' hm).mono ?_
          rintro e w' ⟨rfl, rfl⟩
          go_wp2_with fail
          go_round
          case rel => exact ⟨j, by omega, rfl, H.out⟩
          case measure => simp [intOf]

set_option maxHeartbeats 1000000 in
theorem sCmp_ge (v v' : Value) (n m : Nat) (f g : Nat → Nat) (w : World) (hL : Lim w v n f) (hL' : Lim w v' m g) (hn : n ≤ 1048576) (hm : m ≤ 1048576) (hnm : m ≤ n) :
    Calls Try.prog 83 #[v, v'] w fun e w' => e = .returned (.int .i64 (cmpF (ext n f) (ext m g) n)) ∧ w = w' := by
  obtain ⟨a, c, rfl, -⟩ := id hL
  obtain ⟨a', c', rfl, -⟩ := id hL'
  have hd : decide (n < m) = false := by simp; omega
  go_enter Try.func83, Try.ntmps83
  go_wp2_with fail
  go_loop [6] (fun i => ∃ k : Nat, k ≤ n ∧ i = .int .i64 ((k : Int) - 1) ∧ cmpF (ext n f) (ext m g) k = cmpF (ext n f) (ext m g) n) (fun i => (intOf i + 1).toNat)
  case atStart => exact ⟨n, Nat.le_refl _, rfl, rfl⟩
  case round =>
    obtain ⟨k, hk, rfl, he⟩ := hrel
    have He : Hid (cmpF (ext n f) (ext m g) k = cmpF (ext n f) (ext m g) n) := he
    clear he
    rcases Nat.eq_zero_or_pos k with hz | hp
    · subst hz
      go_wp2_with fail
      go_ret
      exact ⟨ret_int (by rw [← He.out]; rfl), rfl⟩
    · obtain ⟨j, rfl⟩ : ∃ j, k = j + 1 := ⟨k - 1, by omega⟩
      have ei : (((j + 1 : Nat) : Int) - 1) = (j : Int) := by omega
      rw [ei]
      clear ei
      by_cases h1 : ext n f j < ext m g j
      · have H : Hid (cmpF (ext n f) (ext m g) n = -1) := by rw [← He.out]; simp [cmpF, h1, Hid]
        clear He
        go_wp2_with fail
        refine (limb_any _ n f j w hL hn).mono ?_
        rintro e w' ⟨rfl, rfl⟩
        go_wp2_with fail
        refine (limb_any _ m g j _ hL' hm).mono ?_
        rintro e w' ⟨rfl, rfl⟩
        go_wp2_with fail
        go_ret
        exact ⟨ret_int (by rw [H.out]), rfl⟩
      · by_cases h2 : ext m g j < ext n f j
        · have H : Hid (cmpF (ext n f) (ext m g) n = 1) := by rw [← He.out]; simp [cmpF, h1, h2, Hid]
          clear He
          go_wp2_with fail
          refine (limb_any _ n f j _ hL hn).mono ?_
          rintro e w' ⟨rfl, rfl⟩
          go_wp2_with fail
          refine (limb_any _ m g j _ hL' hm).mono ?_
          rintro e w' ⟨rfl, rfl⟩
          go_wp2_with fail
          go_ret
          exact ⟨ret_int (by rw [H.out]), rfl⟩
        · have H : Hid (cmpF (ext n f) (ext m g) j = cmpF (ext n f) (ext m g) n) := by rw [← He.out]; simp [cmpF, h1, h2, Hid]
          clear He
          go_wp2_with fail
          refine (limb_any _ n f j _ hL hn).mono ?_
          rintro e w' ⟨rfl, rfl⟩
          go_wp2_with fail
          refine (limb_any _ m g j _ hL' hm).mono ?_
          rintro e w' ⟨rfl, rfl⟩
          go_wp2_with fail
          go_round
          case rel => exact ⟨j, by omega, rfl, H.out⟩
          case measure => simp [intOf]

theorem sCmp_any (v v' : Value) (n m : Nat) (f g : Nat → Nat) (w : World) (hL : Lim w v n f) (hL' : Lim w v' m g) (hn : n ≤ 1048576) (hm : m ≤ 1048576) :
    Calls Try.prog 83 #[v, v'] w fun e w' => e = .returned (.int .i64 (cmpF (ext n f) (ext m g) (max n m))) ∧ w = w' := by
  rcases Nat.lt_or_ge n m with hnm | hnm
  · rw [Nat.max_eq_right (by omega)]; exact sCmp_lt v v' n m f g w hL hL' hn hm hnm
  · rw [Nat.max_eq_left hnm]; exact sCmp_ge v v' n m f g w hL hL' hn hm hnm

end Go.Proofs.Ytpcnmolncoaddaa
