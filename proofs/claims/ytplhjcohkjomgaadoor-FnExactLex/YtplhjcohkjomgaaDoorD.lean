import Derived.Test.YtplhjcohkjomgaaDoorC
namespace Go.Proofs.YtplhjcohkjomgaaDoor
open Go.RowKit Go.Joins

theorem Lx.drewN {w b s a ln cl x4 x5 x6 x7} (h : Lx w b s a ln cl x4 x5 x6 x7) (q : Nat) : Lx (w.drewN q) b s a ln cl x4 x5 x6 x7 :=
  ⟨h.c0, h.c1, h.c2, h.c3, h.c4, h.c5, h.c6, h.c7, h.fr, h.lt⟩
theorem Lx.set2 {w b s a ln cl x4 x5 x6 x7} (h : Lx w b s a ln cl x4 x5 x6 x7) (z : Int) : Lx (w.setCell ⟨b, 2, none⟩ (.int .i64 z)) b s a z cl x4 x5 x6 x7 := by
  obtain ⟨c0, c1, c2, c3, c4, c5, c6, c7, fr, lt⟩ := h
  exact ⟨by simp [go_sem, c0], by simp [go_sem, c1], by simp [go_sem, c2], by simp [go_sem, c3], by simp [go_sem, c4], by simp [go_sem, c5], by simp [go_sem, c6], by simp [go_sem, c7], fun o => by simpa [go_sem] using fr o, by simpa using lt⟩
theorem Lx.set3 {w b s a ln cl x4 x5 x6 x7} (h : Lx w b s a ln cl x4 x5 x6 x7) (z : Int) : Lx (w.setCell ⟨b, 3, none⟩ (.int .i64 z)) b s a ln z x4 x5 x6 x7 := by
  obtain ⟨c0, c1, c2, c3, c4, c5, c6, c7, fr, lt⟩ := h
  exact ⟨by simp [go_sem, c0], by simp [go_sem, c1], by simp [go_sem, c2], by simp [go_sem, c3], by simp [go_sem, c4], by simp [go_sem, c5], by simp [go_sem, c6], by simp [go_sem, c7], fun o => by simpa [go_sem] using fr o, by simpa using lt⟩

set_option maxHeartbeats 1000000 in
set_option maxRecDepth 100000 in
theorem mSkip (b : Nat) (s : ByteArray) (a n : Nat) (x4 x5 x6 x7 : Value) (w : World) (h : Lx w b s a (pl s a) (pc s a) x4 x5 x6 x7) (hs : s.size ≤ 1048576) (ha : a + n ≤ s.size) :
    Calls Tryd.prog 37 #[.pointer (some ⟨b, 0, none⟩), .int .i64 n] w fun e w' => e = .returned (.tuple #[]) ∧ Lx w' b s (a + n) (pl s (a + n)) (pc s (a + n)) x4 x5 x6 x7 ∧ Only b w w' := by
  go_enter Tryd.func37, Tryd.ntmps37
  go_wp2_with fail
  go_loopw [4] (fun s4 wr => ∃ k : Nat, k ≤ n ∧ s4 = .int .i64 k ∧ Lx wr b s (a + k) (pl s (a + k)) (pc s (a + k)) x4 x5 x6 x7 ∧ Only b w wr) (fun s4 _ => n - (intOf s4).toNat)
  case atStart => exact ⟨0, Nat.zero_le _, rfl, h, Only.refl _ _⟩
  case round =>
    clear h
    obtain ⟨k, hk, rfl, hl, ho⟩ := hrel
    by_cases hlt : k < n
    · have hlt' : a + k < s.size := by omega
      have hnx : Hid (a + (k + 1) = a + k + 1) := by show _ = _; omega
      generalize a + k = j at *
      have hb := bt_in hlt'
      have p1 := pl_le s j
      have p2 := pc_le s j
      obtain ⟨c0, c1, c2, c3, c4, c5, c6, c7, fr, lt⟩ := id hl
      have f1 := fr 1
      have f2 := fr 2
      have f3 := fr 3
      by_cases he : bt s j = 10
      · have hq : ((s[j].toNat : Int) == 10) = true := by rw [hb, he]; rfl
        have e1 : Hid (pl s (j + 1) = pl s j + 1) := by show pl s (j + 1) = _; rw [pl, if_pos he]
        have e2 : Hid (pc s (j + 1) = 1) := by show pc s (j + 1) = _; rw [pc, if_pos he]
        clear hb he
        go_wp2_with fail
        go_region
        go_wp2_with fail
        go_roundw
        case rel =>
          refine ⟨k + 1, by omega, by go_num, ?_, ?_⟩
          · rw [hnx.out, e1.out, e2.out]
            exact ((((hl.set2 _).set3 _).set1 (j + 1)).set3 _).drewN 1
          · exact ((((ho.trans (Only.setCell wr ⟨b, 2, none⟩ _)).trans (Only.setCell _ ⟨b, 3, none⟩ _)).trans (Only.setCell _ ⟨b, 1, none⟩ _)).trans (Only.setCell _ ⟨b, 3, none⟩ _)).drewN 1
        case measure => simp [intOf]; omega
      · have hq : ((s[j].toNat : Int) == 10) = false := by rw [hb]; simp; omega
        have e1 : Hid (pl s (j + 1) = pl s j) := by show pl s (j + 1) = _; rw [pl, if_neg he]
        have e2 : Hid (pc s (j + 1) = pc s j + 1) := by show pc s (j + 1) = _; rw [pc, if_neg he]
        clear hb he
        go_wp2_with fail
        go_region
        go_wp2_with fail
        go_roundw
        case rel =>
          refine ⟨k + 1, by omega, by go_num, ?_, ?_⟩
          · rw [hnx.out, e1.out, e2.out]
            exact ((hl.set1 (j + 1)).set3 _).drewN 1
          · exact ((ho.trans (Only.setCell wr ⟨b, 1, none⟩ _)).trans (Only.setCell _ ⟨b, 3, none⟩ _)).drewN 1
        case measure => simp [intOf]; omega
    · obtain rfl : n = k := by omega
      go_wp2_with fail
      go_end0
      exact ⟨rfl, hl, ho⟩

end Go.Proofs.YtplhjcohkjomgaaDoor
