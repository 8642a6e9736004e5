import Derived.Test.YtjfoagmenehapaaGreatDoorQ20
namespace Go.Proofs.YtjfoagmenehapaaGreatDoor.Tree
open Go.RowKit Go.Joins

/-- What may stand in a module behind its imports. -/
def topK (k : Int) : Bool := dK k || (k == 63 || (k == 65 || k == 66))
/-- A module's kids. -/
def modM : List Kn → Bool
  | [] => false
  | x :: R => x.k == 70 && (R.dropWhile (fun y => y.k == 67)).all (fun y => topK y.k)

set_option maxHeartbeats 2000000 in
set_option maxRecDepth 100000 in
theorem mModule (k : Int) (nm : ByteArray) (a : Option Addr) (cap n : Nat) (L : List Kn) (W : World) (hl : L.length = n) (hn : n ≤ maxLen) (hk : Kids W W.heap.size a L) :
    Calls Tryz.prog 56 #[nodeV k nm a n cap] W fun e W' => e = .returned (.bool (modM L)) ∧ Below W.heap.size W W' := by
  have HK := hide hk
  have hmx : (n : Int) ≤ 9223372036854775807 := by simp only [maxLen] at hn; omega
  unfold nodeV
  have q1 := Box3.new W (.int .i64 k) (.string nm) (.slice a n cap) 29
  have hB0 : Below W.heap.size W (W.alloc (.cells #[.int .i64 k, .string nm, .slice a n cap] 29)) := below_alloc1 _ _
  clear hk hn
  match L, hl, HK with
  | [], hl, HK =>
    have h0 : n = 0 := hl.symm
    subst h0
    go_enter Tryz.func56, Tryz.ntmps56
    go_wp2_with fail
    go_ret
    exact ⟨rfl, hB0⟩
  | x :: R, hl, HK =>
    have hn2 : 1 ≤ n := by rw [← hl]; simp
    have hn0 : ((n : Int) == 0) = false := beq_eq_false_iff_ne.2 (by omega)
    have hn1 : (0 : Int) < n := by omega
    obtain ⟨T, hT⟩ : ∃ T, T = modM (x :: R) := ⟨_, rfl⟩
    rw [← hT]
    have HTT : Hid (T = (x.k == 70 && (((x :: R).drop 1).dropWhile (fun y => y.k == 67)).all (fun y => topK y.k))) := hT
    clear hT
    obtain ⟨g, o, rfl, hg, hr⟩ := HK.out (by simp)
    have x0 := ((hr 0 x rfl).below hB0 hg (Nat.le_refl _)).c0
    have e0 : o + 0 * 3 = o := by omega
    rw [e0] at x0
    have HR := hide hr
    have HL := hide hl
    clear hr hl e0
    go_enter Tryz.func56, Tryz.ntmps56
    go_upto_region 1 with fail
    generalize W.alloc (.cells #[.int .i64 k, .string nm, .slice (some ⟨g, o, none⟩) n cap] 29) = W0 at *
    have HQ := hide q1
    obtain ⟨-, d0, d1, d2, -, -, -⟩ := q1
    by_cases hx : x.k = 70
    · rw [hx] at x0
      have HT : Hid (T = (((x :: R).drop 1).dropWhile (fun y => y.k == 67)).all (fun y => topK y.k)) := by unfold Hid; rw [HTT.out, hx]; rfl
      clear HTT hx
      go_wp2_with fail
      clear d0 d1 d2 x0
      generalize x :: R = L at *
      go_loopw [3] (fun s3 wr => ∃ i : Nat, s3 = .int .i64 i ∧ i ≤ n ∧ Hid (T = ((L.drop i).dropWhile (fun y => y.k == 67)).all (fun y => topK y.k)) ∧ wr = W0) (fun s3 _ => n - (intOf s3).toNat)
      case atStart => exact ⟨1, rfl, hn2, HT, rfl⟩
      case round =>
        obtain ⟨i, rfl, hin, HT', rfl⟩ := hrel
        obtain ⟨-, d0, d1, d2, -, -, -⟩ := HQ.out
        by_cases hgo : ∃ y, L[i]? = some y ∧ y.k = 67
        · obtain ⟨y, hy, hy1⟩ := hgo
          have hi : i < n := by rw [← HL.out]; exact (List.getElem?_eq_some_iff.1 hy).1
          have hi' : (i : Int) < n := by omega
          have c0 := ((HR.out i y hy).below hB0 hg (Nat.le_refl _)).c0
          have HT2 : Hid (T = ((L.drop (i + 1)).dropWhile (fun y => y.k == 67)).all (fun y => topK y.k)) := by
            unfold Hid; rw [HT'.out, drop_step hy, List.dropWhile_cons, if_pos (by simp [hy1])]
          rw [hy1] at c0
          clear HT' hy hy1
          go_wp2_with fail
          go_roundw
          case rel => exact ⟨i + 1, by go_num, by omega, HT2, trivial⟩
          case measure => simp [intOf]; omega
        · have HT2 : Hid (T = (L.drop i).all (fun y => topK y.k)) := by
            unfold Hid
            rw [HT'.out]
            by_cases hi : i < L.length
            · obtain ⟨y, hy⟩ : ∃ y, L[i]? = some y := ⟨_, List.getElem?_eq_getElem hi⟩
              rw [drop_step hy, List.dropWhile_cons, if_neg (by simp; exact fun h => hgo ⟨y, hy, h⟩)]
            · rw [List.drop_eq_nil_of_le (by omega)]; rfl
          have hcase : n ≤ i ∨ ∃ y, L[i]? = some y ∧ y.k ≠ 67 := by
            by_cases hi : i < L.length
            · exact .inr ⟨_, List.getElem?_eq_getElem hi, fun h => hgo ⟨_, List.getElem?_eq_getElem hi, h⟩⟩
            · exact .inl (by rw [← HL.out]; omega)
          clear HT' hgo
          rcases hcase with hi | ⟨y, hy, hy1⟩
          · have hi' : ¬ (i : Int) < n := by omega
            go_wp2_with fail
            clear d0 d1 d2
            go_loopw [3, 4] (fun s3 _ wx => ∃ j : Nat, s3 = .int .i64 j ∧ j ≤ n ∧ Hid (T = (L.drop j).all (fun y => topK y.k)) ∧ wx = wr) (fun s3 _ _ => n - (intOf s3).toNat)
            case atStart => exact ⟨i, rfl, hin, HT2, rfl⟩
            case round =>
              obtain ⟨j, rfl, hjn, HT4, rfl⟩ := hrel
              obtain ⟨-, d0, d1, d2, -, -, -⟩ := HQ.out
              by_cases hj : j < n
              · have hj' : (j : Int) < n := by omega
                obtain ⟨z, hz⟩ : ∃ z, L[j]? = some z := ⟨_, List.getElem?_eq_getElem (by rw [HL.out]; exact hj)⟩
                have c0 := ((HR.out j z hz).below hB0 hg (Nat.le_refl _)).c0
                have HD : Hid (∀ wx, Calls Tryz.prog 80 #[.int .i64 z.k] wx fun e w' => e = .returned (.bool (dK z.k)) ∧ w' = wx) := fun wx => mDecl z.k wx
                have HS := hide (HT4.out.trans (all_step (p := fun y => topK y.k) hz))
                have hz0 : topK z.k = (dK z.k || (z.k == 63 || (z.k == 65 || z.k == 66))) := rfl
                rw [hz0] at HS
                clear HT4 hz hz0
                generalize z.k = zk at *
                cases hD : dK zk with
                | true =>
                  rw [hD] at HS HD
                  have HT5 : Hid (T = (L.drop (j + 1)).all (fun y => topK y.k)) := HS.out
                  clear HS hD
                  go_wp2_with fail
                  refine (HD.out _).mono ?_
                  rintro e w2 ⟨rfl, rfl⟩
                  go_wp2_with fail
                  go_roundw
                  case rel => exact ⟨j + 1, by go_num, by omega, HT5, trivial⟩
                  case measure => simp [intOf]; omega
                | false =>
                  rw [hD] at HS HD
                  clear hD
                  by_cases k1 : zk = 63
                  · subst k1
                    have HT5 : Hid (T = (L.drop (j + 1)).all (fun y => topK y.k)) := HS.out
                    clear HS
                    go_wp2_with fail
                    refine (HD.out _).mono ?_
                    rintro e w2 ⟨rfl, rfl⟩
                    go_wp2_with fail
                    go_roundw
                    case rel => exact ⟨j + 1, by go_num, by omega, HT5, trivial⟩
                    case measure => simp [intOf]; omega
                  · have k1' : (zk == 63) = false := beq_eq_false_iff_ne.2 k1
                    have k1'' : (zk != 63) = true := by simpa using k1
                    by_cases k2 : zk = 65
                    · subst k2
                      have HT5 : Hid (T = (L.drop (j + 1)).all (fun y => topK y.k)) := HS.out
                      clear HS k1
                      go_wp2_with fail
                      refine (HD.out _).mono ?_
                      rintro e w2 ⟨rfl, rfl⟩
                      go_wp2_with fail
                      go_roundw
                      case rel => exact ⟨j + 1, by go_num, by omega, HT5, trivial⟩
                      case measure => simp [intOf]; omega
                    · have k2' : (zk == 65) = false := beq_eq_false_iff_ne.2 k2
                      have k2'' : (zk != 65) = true := by simpa using k2
                      by_cases k3 : zk = 66
                      · subst k3
                        have HT5 : Hid (T = (L.drop (j + 1)).all (fun y => topK y.k)) := HS.out
                        clear HS k1 k2
                        go_wp2_with fail
                        refine (HD.out _).mono ?_
                        rintro e w2 ⟨rfl, rfl⟩
                        go_wp2_with fail
                        go_roundw
                        case rel => exact ⟨j + 1, by go_num, by omega, HT5, trivial⟩
                        case measure => simp [intOf]; omega
                      · have k3' : (zk == 66) = false := beq_eq_false_iff_ne.2 k3
                        have k3'' : (zk != 66) = true := by simpa using k3
                        have HT5 : Hid (T = false) := by unfold Hid; rw [HS.out, k1', k2', k3']; rfl
                        clear HS k1 k2 k3
                        go_wp2_with fail
                        refine (HD.out _).mono ?_
                        rintro e w2 ⟨rfl, rfl⟩
                        go_wp2_with fail
                        go_ret
                        exact ⟨by rw [HT5.out]; rfl, hB0⟩
              · have hj' : ¬ (j : Int) < n := by omega
                have HT5 : Hid (T = true) := HT4.out.trans (all_end (by rw [HL.out]; omega))
                clear HT4
                go_wp2_with fail
                go_ret
                exact ⟨by rw [HT5.out]; rfl, hB0⟩
          · have hi : i < n := by rw [← HL.out]; exact (List.getElem?_eq_some_iff.1 hy).1
            have hi' : (i : Int) < n := by omega
            have c0 := ((HR.out i y hy).below hB0 hg (Nat.le_refl _)).c0
            have hy2 : (y.k == 67) = false := beq_eq_false_iff_ne.2 hy1
            generalize y.k = yk at *
            clear hy hy1
            go_wp2_with fail
            clear c0
            clear d0 d1 d2
            go_loopw [3, 4] (fun s3 _ wx => ∃ j : Nat, s3 = .int .i64 j ∧ j ≤ n ∧ Hid (T = (L.drop j).all (fun y => topK y.k)) ∧ wx = wr) (fun s3 _ _ => n - (intOf s3).toNat)
            case atStart => exact ⟨i, rfl, hin, HT2, rfl⟩
            case round =>
              obtain ⟨j, rfl, hjn, HT4, rfl⟩ := hrel
              obtain ⟨-, d0, d1, d2, -, -, -⟩ := HQ.out
              by_cases hj : j < n
              · have hj' : (j : Int) < n := by omega
                obtain ⟨z, hz⟩ : ∃ z, L[j]? = some z := ⟨_, List.getElem?_eq_getElem (by rw [HL.out]; exact hj)⟩
                have c0 := ((HR.out j z hz).below hB0 hg (Nat.le_refl _)).c0
                have HD : Hid (∀ wx, Calls Tryz.prog 80 #[.int .i64 z.k] wx fun e w' => e = .returned (.bool (dK z.k)) ∧ w' = wx) := fun wx => mDecl z.k wx
                have HS := hide (HT4.out.trans (all_step (p := fun y => topK y.k) hz))
                have hz0 : topK z.k = (dK z.k || (z.k == 63 || (z.k == 65 || z.k == 66))) := rfl
                rw [hz0] at HS
                clear HT4 hz hz0
                generalize z.k = zk at *
                cases hD : dK zk with
                | true =>
                  rw [hD] at HS HD
                  have HT5 : Hid (T = (L.drop (j + 1)).all (fun y => topK y.k)) := HS.out
                  clear HS hD
                  go_wp2_with fail
                  refine (HD.out _).mono ?_
                  rintro e w2 ⟨rfl, rfl⟩
                  go_wp2_with fail
                  go_roundw
                  case rel => exact ⟨j + 1, by go_num, by omega, HT5, trivial⟩
                  case measure => simp [intOf]; omega
                | false =>
                  rw [hD] at HS HD
                  clear hD
                  by_cases k1 : zk = 63
                  · subst k1
                    have HT5 : Hid (T = (L.drop (j + 1)).all (fun y => topK y.k)) := HS.out
                    clear HS
                    go_wp2_with fail
                    refine (HD.out _).mono ?_
                    rintro e w2 ⟨rfl, rfl⟩
                    go_wp2_with fail
                    go_roundw
                    case rel => exact ⟨j + 1, by go_num, by omega, HT5, trivial⟩
                    case measure => simp [intOf]; omega
                  · have k1' : (zk == 63) = false := beq_eq_false_iff_ne.2 k1
                    have k1'' : (zk != 63) = true := by simpa using k1
                    by_cases k2 : zk = 65
                    · subst k2
                      have HT5 : Hid (T = (L.drop (j + 1)).all (fun y => topK y.k)) := HS.out
                      clear HS k1
                      go_wp2_with fail
                      refine (HD.out _).mono ?_
                      rintro e w2 ⟨rfl, rfl⟩
                      go_wp2_with fail
                      go_roundw
                      case rel => exact ⟨j + 1, by go_num, by omega, HT5, trivial⟩
                      case measure => simp [intOf]; omega
                    · have k2' : (zk == 65) = false := beq_eq_false_iff_ne.2 k2
                      have k2'' : (zk != 65) = true := by simpa using k2
                      by_cases k3 : zk = 66
                      · subst k3
                        have HT5 : Hid (T = (L.drop (j + 1)).all (fun y => topK y.k)) := HS.out
                        clear HS k1 k2
                        go_wp2_with fail
                        refine (HD.out _).mono ?_
                        rintro e w2 ⟨rfl, rfl⟩
                        go_wp2_with fail
                        go_roundw
                        case rel => exact ⟨j + 1, by go_num, by omega, HT5, trivial⟩
                        case measure => simp [intOf]; omega
                      · have k3' : (zk == 66) = false := beq_eq_false_iff_ne.2 k3
                        have k3'' : (zk != 66) = true := by simpa using k3
                        have HT5 : Hid (T = false) := by unfold Hid; rw [HS.out, k1', k2', k3']; rfl
                        clear HS k1 k2 k3
                        go_wp2_with fail
                        refine (HD.out _).mono ?_
                        rintro e w2 ⟨rfl, rfl⟩
                        go_wp2_with fail
                        go_ret
                        exact ⟨by rw [HT5.out]; rfl, hB0⟩
              · have hj' : ¬ (j : Int) < n := by omega
                have HT5 : Hid (T = true) := HT4.out.trans (all_end (by rw [HL.out]; omega))
                clear HT4
                go_wp2_with fail
                go_ret
                exact ⟨by rw [HT5.out]; rfl, hB0⟩
    · have hx2 : (x.k == 70) = false := beq_eq_false_iff_ne.2 hx
      have hx3 : (x.k != 70) = true := by simpa using hx
      have HT : Hid (T = false) := by unfold Hid; rw [HTT.out, hx2]; rfl
      clear HTT hx
      generalize x.k = xk at *
      go_wp2_with fail
      go_ret
      exact ⟨by rw [HT.out]; rfl, hB0⟩

end Go.Proofs.YtjfoagmenehapaaGreatDoor.Tree

namespace Go.Proofs.YtjfoagmenehapaaGreatDoor.Tree
open Go.RowKit Go.Joins

/-- An operator between two sides. -/
def opOk (p : Bool) (x : Kn) : Bool := x.ks.len == 0 && (if p = true then x.k == 32 && cn x.nm else (x.k == 1 || x.k == 2))
/-- Sides and operators by turns. -/
def tF (p : Bool) : Bool → List Kn → Bool
  | _, [] => true
  | false, x :: R => (if p = true then pK x.k else eK x.k) && tF p true R
  | true, x :: R => opOk p x && tF p false R
def turnsM (p : Bool) (L : List Kn) : Bool := decide (3 ≤ L.length) && (L.length % 2 == 1 && tF p false L)

theorem rem2 (i : Nat) : Int.tmod (i : Int) 2 = ((i % 2 : Nat) : Int) := by
  rw [Int.tmod_eq_emod_of_nonneg (by omega)]
  omega

theorem tF_even {p : Bool} {L : List Kn} {i : Nat} {x : Kn} (hx : L[i]? = some x) (h : i % 2 = 0) : tF p (decide (i % 2 = 1)) (L.drop i) = ((if p = true then pK x.k else eK x.k) && tF p (decide ((i + 1) % 2 = 1)) (L.drop (i + 1))) := by
  rw [drop_step hx, decide_eq_false (by omega), decide_eq_true (by omega)]
  rfl
theorem tF_odd {p : Bool} {L : List Kn} {i : Nat} {x : Kn} (hx : L[i]? = some x) (h : i % 2 = 1) : tF p (decide (i % 2 = 1)) (L.drop i) = (opOk p x && tF p (decide ((i + 1) % 2 = 1)) (L.drop (i + 1))) := by
  rw [drop_step hx, decide_eq_true h, decide_eq_false (by omega)]
  rfl

set_option maxHeartbeats 2000000 in
set_option maxRecDepth 100000 in
theorem mTurnsE (k : Int) (nm : ByteArray) (a : Option Addr) (cap n : Nat) (L : List Kn) (W : World) (hl : L.length = n) (hn : n ≤ maxLen) (hk : Kids W W.heap.size a L) :
    Calls Tryz.prog 53 #[nodeV k nm a n cap, .int .u8 101] W fun e W' => e = .returned (.bool (turnsM false L)) ∧ Below W.heap.size W W' := by
  obtain ⟨T, hT⟩ : ∃ T, T = turnsM false L := ⟨_, rfl⟩
  rw [← hT]
  unfold turnsM at hT
  rw [hl] at hT
  have hmx : (n : Int) ≤ 9223372036854775807 := by simp only [maxLen] at hn; omega
  unfold nodeV
  have HL := hide hl
  have HK := hide hk
  have q1 := Box3.new W (.int .i64 k) (.string nm) (.slice a n cap) 29
  have hB0 : Below W.heap.size W (W.alloc (.cells #[.int .i64 k, .string nm, .slice a n cap] 29)) := below_alloc1 _ _
  have hrn := rem2 n
  clear hl hk hn
  by_cases h3 : n < 3
  · have h3' : (n : Int) < 3 := by omega
    have HT2 : Hid (T = false) := by unfold Hid; rw [hT, decide_eq_false (by omega)]; rfl
    clear hT h3
    go_enter Tryz.func53, Tryz.ntmps53
    go_wp2_with fail
    go_ret
    exact ⟨by rw [HT2.out]; rfl, hB0⟩
  · have h3' : ¬ (n : Int) < 3 := by omega
    rw [decide_eq_true (by omega)] at hT
    by_cases h2 : n % 2 = 0
    · have HT2 : Hid (T = false) := by unfold Hid; rw [hT, h2]; rfl
      rw [h2] at hrn
      clear hT h3 h2
      go_enter Tryz.func53, Tryz.ntmps53
      go_wp2_with fail
      go_ret
      exact ⟨by rw [HT2.out]; rfl, hB0⟩
    · have h2' : n % 2 = 1 := by omega
      rw [h2'] at hrn hT
      have HT : Hid (T = tF false false (L.drop 0)) := hT
      clear hT h3 h2 h2'
      go_enter Tryz.func53, Tryz.ntmps53
      go_wp2_with fail
      generalize W.alloc (.cells #[.int .i64 k, .string nm, .slice a n cap] 29) = W0 at *
      have HQ := hide q1
      clear q1 hrn h3'
      go_loopw [5, 6] (fun s5 _ wr => ∃ i : Nat, s5 = .int .i64 i ∧ i ≤ n ∧ Hid (T = tF false (decide (i % 2 = 1)) (L.drop i)) ∧ Hid (Box3 wr W.heap.size (.int .i64 k) (.string nm) (.slice a n cap)) ∧ Below W.heap.size W wr) (fun s5 _ _ => n - (intOf s5).toNat)
      case atStart => exact ⟨0, rfl, Nat.zero_le _, HT, HQ, hB0⟩
      case round =>
        obtain ⟨i, rfl, hin, HT', HQ', bel⟩ := hrel
        have qlt := HQ'.out.lt
        obtain ⟨-, d0, d1, d2, -, -, -⟩ := HQ'.out
        have hri := rem2 i
        by_cases hi : i < n
        · have hi' : (i : Int) < n := by omega
          obtain ⟨g, o, rfl, hg, hr⟩ := (HK.out.below bel (Nat.le_refl _)) (by rw [HL.out]; omega)
          obtain ⟨x, hx⟩ : ∃ x, L[i]? = some x := ⟨_, List.getElem?_eq_getElem (by rw [HL.out]; exact hi)⟩
          obtain ⟨-, -, c0, c1, c2, -⟩ := hr i x hx
          have hbx := below_alloc1 wr (.cells #[.int .i64 x.k, .string x.nm, .slice x.a x.ks.len x.cap] 29)
          have hB2 := bel.trans (hbx.mono bel.size)
          have HQ2 := hide (HQ'.out.below hbx qlt)
          have q2 := Box3.new wr (.int .i64 x.k) (.string x.nm) (.slice x.a x.ks.len x.cap) 29
          by_cases h2 : i % 2 = 0
          · have HS := hide (HT'.out.trans (tF_even hx h2))
            have HC : Hid (∀ wx, Calls Tryz.prog 79 #[.int .i64 x.k] wx fun e w' => e = .returned (.bool (eK x.k)) ∧ w' = wx) := fun wx => mExpr x.k wx
            rw [h2] at hri
            clear hr HT' hx h2
            go_upto_region 7 with fail
            generalize wr.alloc (.cells #[.int .i64 x.k, .string x.nm, .slice x.a x.ks.len x.cap] 29) = W2 at *
            obtain ⟨-, e0, e1, e2, -, -, -⟩ := q2
            have HS' : Hid (T = (eK x.k && tF false (decide ((i + 1) % 2 = 1)) (L.drop (i + 1)))) := HS.out
            clear HS
            generalize eK x.k = X at *
            generalize x.k = xk at *
            cases X with
            | false =>
              have HT2 : Hid (T = false) := HS'.out
              clear HS'
              go_wp2_with fail
              refine (HC.out _).mono ?_
              rintro e w2 ⟨rfl, rfl⟩
              go_wp2_with fail
              go_ret
              exact ⟨by rw [HT2.out]; rfl, hB2⟩
            | true =>
              have HT2 : Hid (T = tF false (decide ((i + 1) % 2 = 1)) (L.drop (i + 1))) := HS'.out
              clear HS'
              go_wp2_with fail
              refine (HC.out _).mono ?_
              rintro e w2 ⟨rfl, rfl⟩
              go_wp2_with fail
              go_roundw
              case rel => exact ⟨i + 1, by go_num, by omega, HT2, HQ2, hB2⟩
              case measure => simp [intOf]; omega
          · have h2' : i % 2 = 1 := by omega
            have HS := hide (HT'.out.trans (tF_odd hx h2'))
            rw [h2'] at hri
            clear hr HT' hx h2 h2'
            go_upto_region 7 with fail
            generalize wr.alloc (.cells #[.int .i64 x.k, .string x.nm, .slice x.a x.ks.len x.cap] 29) = W2 at *
            obtain ⟨-, e0, e1, e2, -, -, -⟩ := q2
            have HS' : Hid (T = ((x.ks.len == 0 && (x.k == 1 || x.k == 2)) && tF false (decide ((i + 1) % 2 = 1)) (L.drop (i + 1)))) := HS.out
            clear HS
            generalize x.k = xk at *
            generalize x.nm = xn at *
            generalize x.ks.len = xl at *
            by_cases hx0 : xl = 0
            · subst hx0
              by_cases k1 : xk = 1
              · subst k1
                have HT2 : Hid (T = tF false (decide ((i + 1) % 2 = 1)) (L.drop (i + 1))) := HS'.out
                clear HS'
                go_wp2_with fail
                go_roundw
                case rel => exact ⟨i + 1, by go_num, by omega, HT2, HQ2, hB2⟩
                case measure => simp [intOf]; omega
              · have k1' : (xk == 1) = false := beq_eq_false_iff_ne.2 k1
                have k1'' : (xk != 1) = true := by simpa using k1
                by_cases k2 : xk = 2
                · subst k2
                  have HT2 : Hid (T = tF false (decide ((i + 1) % 2 = 1)) (L.drop (i + 1))) := HS'.out
                  clear HS'
                  go_wp2_with fail
                  go_roundw
                  case rel => exact ⟨i + 1, by go_num, by omega, HT2, HQ2, hB2⟩
                  case measure => simp [intOf]; omega
                · have k2' : (xk == 2) = false := beq_eq_false_iff_ne.2 k2
                  have k2'' : (xk != 2) = true := by simpa using k2
                  have HT2 : Hid (T = false) := by unfold Hid; rw [HS'.out, k1', k2']; rfl
                  clear HS' k1 k2
                  go_wp2_with fail
                  go_ret
                  exact ⟨by rw [HT2.out]; rfl, hB2⟩
            · have hx1 : (0 : Int) < xl := by omega
              have HT2 : Hid (T = false) := by unfold Hid; rw [HS'.out]; simp [hx0]
              clear HS' hx0
              go_wp2_with fail
              go_ret
              exact ⟨by rw [HT2.out]; rfl, hB2⟩
        · have hi' : ¬ (i : Int) < n := by omega
          have HT2 : Hid (T = true) := by
            unfold Hid
            rw [HT'.out, List.drop_eq_nil_of_le (by rw [HL.out]; omega)]
            cases decide (i % 2 = 1) <;> rfl
          clear HT' hri
          go_wp2_with fail
          go_ret
          exact ⟨by rw [HT2.out]; rfl, bel⟩

set_option maxHeartbeats 2000000 in
set_option maxRecDepth 100000 in
theorem mTurnsP (k : Int) (nm : ByteArray) (a : Option Addr) (cap n : Nat) (L : List Kn) (W : World) (hl : L.length = n) (hn : n ≤ maxLen) (hk : Kids W W.heap.size a L) :
    Calls Tryz.prog 53 #[nodeV k nm a n cap, .int .u8 112] W fun e W' => e = .returned (.bool (turnsM true L)) ∧ Below W.heap.size W W' := by
  obtain ⟨T, hT⟩ : ∃ T, T = turnsM true L := ⟨_, rfl⟩
  rw [← hT]
  unfold turnsM at hT
  rw [hl] at hT
  have hmx : (n : Int) ≤ 9223372036854775807 := by simp only [maxLen] at hn; omega
  unfold nodeV
  have HL := hide hl
  have HK := hide hk
  have q1 := Box3.new W (.int .i64 k) (.string nm) (.slice a n cap) 29
  have hB0 : Below W.heap.size W (W.alloc (.cells #[.int .i64 k, .string nm, .slice a n cap] 29)) := below_alloc1 _ _
  have hrn := rem2 n
  clear hl hk hn
  by_cases h3 : n < 3
  · have h3' : (n : Int) < 3 := by omega
    have HT2 : Hid (T = false) := by unfold Hid; rw [hT, decide_eq_false (by omega)]; rfl
    clear hT h3
    go_enter Tryz.func53, Tryz.ntmps53
    go_wp2_with fail
    go_ret
    exact ⟨by rw [HT2.out]; rfl, hB0⟩
  · have h3' : ¬ (n : Int) < 3 := by omega
    rw [decide_eq_true (by omega)] at hT
    by_cases h2 : n % 2 = 0
    · have HT2 : Hid (T = false) := by unfold Hid; rw [hT, h2]; rfl
      rw [h2] at hrn
      clear hT h3 h2
      go_enter Tryz.func53, Tryz.ntmps53
      go_wp2_with fail
      go_ret
      exact ⟨by rw [HT2.out]; rfl, hB0⟩
    · have h2' : n % 2 = 1 := by omega
      rw [h2'] at hrn hT
      have HT : Hid (T = tF true false (L.drop 0)) := hT
      clear hT h3 h2 h2'
      go_enter Tryz.func53, Tryz.ntmps53
      go_wp2_with fail
      generalize W.alloc (.cells #[.int .i64 k, .string nm, .slice a n cap] 29) = W0 at *
      have HQ := hide q1
      clear q1 hrn h3'
      go_loopw [5, 6] (fun s5 _ wr => ∃ i : Nat, s5 = .int .i64 i ∧ i ≤ n ∧ Hid (T = tF true (decide (i % 2 = 1)) (L.drop i)) ∧ Hid (Box3 wr W.heap.size (.int .i64 k) (.string nm) (.slice a n cap)) ∧ Below W.heap.size W wr) (fun s5 _ _ => n - (intOf s5).toNat)
      case atStart => exact ⟨0, rfl, Nat.zero_le _, HT, HQ, hB0⟩
      case round =>
        obtain ⟨i, rfl, hin, HT', HQ', bel⟩ := hrel
        have qlt := HQ'.out.lt
        obtain ⟨-, d0, d1, d2, -, -, -⟩ := HQ'.out
        have hri := rem2 i
        by_cases hi : i < n
        · have hi' : (i : Int) < n := by omega
          obtain ⟨g, o, rfl, hg, hr⟩ := (HK.out.below bel (Nat.le_refl _)) (by rw [HL.out]; omega)
          obtain ⟨x, hx⟩ : ∃ x, L[i]? = some x := ⟨_, List.getElem?_eq_getElem (by rw [HL.out]; exact hi)⟩
          obtain ⟨-, -, c0, c1, c2, -⟩ := hr i x hx
          have hbx := below_alloc1 wr (.cells #[.int .i64 x.k, .string x.nm, .slice x.a x.ks.len x.cap] 29)
          have hB2 := bel.trans (hbx.mono bel.size)
          have HQ2 := hide (HQ'.out.below hbx qlt)
          have q2 := Box3.new wr (.int .i64 x.k) (.string x.nm) (.slice x.a x.ks.len x.cap) 29
          by_cases h2 : i % 2 = 0
          · have HS := hide (HT'.out.trans (tF_even hx h2))
            have HC : Hid (∀ wx, Calls Tryz.prog 32 #[.int .i64 x.k] wx fun e w' => e = .returned (.bool (pK x.k)) ∧ w' = wx) := fun wx => mPat x.k wx
            rw [h2] at hri
            clear hr HT' hx h2
            go_upto_region 7 with fail
            generalize wr.alloc (.cells #[.int .i64 x.k, .string x.nm, .slice x.a x.ks.len x.cap] 29) = W2 at *
            obtain ⟨-, e0, e1, e2, -, -, -⟩ := q2
            have HS' : Hid (T = (pK x.k && tF true (decide ((i + 1) % 2 = 1)) (L.drop (i + 1)))) := HS.out
            clear HS
            generalize pK x.k = X at *
            generalize x.k = xk at *
            cases X with
            | false =>
              have HT2 : Hid (T = false) := HS'.out
              clear HS'
              go_wp2_with fail
              refine (HC.out _).mono ?_
              rintro e w2 ⟨rfl, rfl⟩
              go_wp2_with fail
              go_ret
              exact ⟨by rw [HT2.out]; rfl, hB2⟩
            | true =>
              have HT2 : Hid (T = tF true (decide ((i + 1) % 2 = 1)) (L.drop (i + 1))) := HS'.out
              clear HS'
              go_wp2_with fail
              refine (HC.out _).mono ?_
              rintro e w2 ⟨rfl, rfl⟩
              go_wp2_with fail
              go_roundw
              case rel => exact ⟨i + 1, by go_num, by omega, HT2, HQ2, hB2⟩
              case measure => simp [intOf]; omega
          · have h2' : i % 2 = 1 := by omega
            have HS := hide (HT'.out.trans (tF_odd hx h2'))
            rw [h2'] at hri
            clear hr HT' hx h2 h2'
            go_upto_region 7 with fail
            generalize wr.alloc (.cells #[.int .i64 x.k, .string x.nm, .slice x.a x.ks.len x.cap] 29) = W2 at *
            obtain ⟨-, e0, e1, e2, -, -, -⟩ := q2
            have HS' : Hid (T = ((x.ks.len == 0 && (x.k == 32 && cn x.nm)) && tF true (decide ((i + 1) % 2 = 1)) (L.drop (i + 1)))) := HS.out
            have HN : Hid (∀ wx, Calls Tryz.prog 50 #[.string x.nm] wx fun e w' => e = .returned (.bool (cn x.nm)) ∧ Below wx.heap.size wx w') := fun wx => mCon x.nm wx
            clear HS
            generalize x.k = xk at *
            generalize x.nm = xn at *
            generalize x.ks.len = xl at *
            by_cases hx0 : xl = 0
            · subst hx0
              by_cases k1 : xk = 32
              · subst k1
                cases hC : cn xn with
                | false =>
                  rw [hC] at HN HS'
                  have HT2 : Hid (T = false) := HS'.out
                  clear HS' hC
                  go_wp2_with fail
                  refine (HN.out W2).mono ?_
                  rintro e w3 ⟨rfl, b3⟩
                  go_wp2_with fail
                  go_ret
                  exact ⟨by rw [HT2.out]; rfl, hB2.trans (b3.mono hB2.size)⟩
                | true =>
                  rw [hC] at HN HS'
                  clear hC
                  have HT2 : Hid (T = tF true (decide ((i + 1) % 2 = 1)) (L.drop (i + 1))) := HS'.out
                  clear HS'
                  go_wp2_with fail
                  refine (HN.out W2).mono ?_
                  rintro e w3 ⟨rfl, b3⟩
                  have hB3 := hB2.trans (b3.mono hB2.size)
                  have HQ3 := hide (HQ2.out.below b3 HQ2.out.lt)
                  go_wp2_with fail
                  go_roundw
                  case rel => exact ⟨i + 1, by go_num, by omega, HT2, HQ3, hB3⟩
                  case measure => simp [intOf]; omega
              · have k1' : (xk == 32) = false := beq_eq_false_iff_ne.2 k1
                have k1'' : (xk != 32) = true := by simpa using k1
                have HT2 : Hid (T = false) := by unfold Hid; rw [HS'.out, k1']; rfl
                clear HS' k1
                go_wp2_with fail
                go_ret
                exact ⟨by rw [HT2.out]; rfl, hB2⟩
            · have hx1 : (0 : Int) < xl := by omega
              have HT2 : Hid (T = false) := by unfold Hid; rw [HS'.out]; simp [hx0]
              clear HS' hx0
              go_wp2_with fail
              go_ret
              exact ⟨by rw [HT2.out]; rfl, hB2⟩
        · have hi' : ¬ (i : Int) < n := by omega
          have HT2 : Hid (T = true) := by
            unfold Hid
            rw [HT'.out, List.drop_eq_nil_of_le (by rw [HL.out]; omega)]
            cases decide (i % 2 = 1) <;> rfl
          clear HT' hri
          go_wp2_with fail
          go_ret
          exact ⟨by rw [HT2.out]; rfl, bel⟩

end Go.Proofs.YtjfoagmenehapaaGreatDoor.Tree

namespace Go.Proofs.YtjfoagmenehapaaGreatDoor.Tree
open Go.RowKit Go.Joins

/-- A kid's kind and name by its place. -/
def kd (L : List Kn) (i : Nat) : Int := match L[i]? with
  | some x => x.k
  | none => 0
def kn (L : List Kn) (i : Nat) : ByteArray := match L[i]? with
  | some x => x.nm
  | none => ⟨#[]⟩

end Go.Proofs.YtjfoagmenehapaaGreatDoor.Tree

namespace Go.Proofs.YtjfoagmenehapaaGreatDoor.Tree
open Go.RowKit Go.Joins

set_option maxHeartbeats 1000000 in
set_option maxRecDepth 100000 in
theorem kid67 (nm : ByteArray) (a : Option Addr) (cap n : Nat) (L : List Kn) (W : World) (hl : L.length = n) (hn : n ≤ maxLen) (hk : Kids W W.heap.size a L) :
    Calls Tryz.prog 36 #[nodeV 67 nm a n cap] W fun e W' => e = .returned (.bool (n == 0 || (n == 1 && plainB (kd L 0) (kn L 0)))) ∧ Below W.heap.size W W' := by
  have hmx : (n : Int) ≤ 9223372036854775807 := by simp only [maxLen] at hn; omega
  unfold nodeV
  by_cases h0 : n = 0
  · subst h0
    have hB0 : Below W.heap.size W (W.alloc (.cells #[.int .i64 67, .string nm, .slice a 0 cap] 29)) := below_alloc1 _ _
    clear hl hk hn
    go_enter Tryz.func36, Tryz.ntmps36
    go_wp2_with fail
    go_ret
    exact ⟨rfl, hB0⟩
  · by_cases h1 : n = 1
    · subst h1
      obtain ⟨g, o, rfl, hg, hr⟩ := id hk (by omega)
      obtain ⟨x, hx⟩ : ∃ x, L[0]? = some x := ⟨_, List.getElem?_eq_getElem (by omega)⟩
      have hK : plainB (kd L 0) (kn L 0) = plainB x.k x.nm := by unfold kd kn; rw [hx]
      rw [hK]
      have HX := hide (hr _ _ hx)
      have HA : Hid (∀ wx, Calls Tryz.prog 55 #[.agg #[.int .i64 x.k, .string x.nm, .slice x.a x.ks.len x.cap]] wx fun e W' => e = .returned (.bool (plainB x.k x.nm)) ∧ Below wx.heap.size wx W') := fun wx => mPlain _ _ _ _ _ wx
      have q1 := Box3.new W (.int .i64 67) (.string nm) (.slice (some ⟨g, o, none⟩) 1 cap) 29
      have hB0 : Below W.heap.size W (W.alloc (.cells #[.int .i64 67, .string nm, .slice (some ⟨g, o, none⟩) 1 cap] 29)) := below_alloc1 _ _
      clear hl hk hn hr hx hK h0
      generalize plainB x.k x.nm = X at *
      go_enter Tryz.func36, Tryz.ntmps36
      go_upto_region 1 with fail
      generalize W.alloc (.cells #[.int .i64 67, .string nm, .slice (some ⟨g, o, none⟩) 1 cap] 29) = W0 at *
      obtain ⟨-, d0, d1, d2, -, -, -⟩ := id q1
      obtain ⟨-, -, y0, y1, y2, -⟩ := HX.out.below hB0 hg (Nat.le_refl _)
      rw [Nat.zero_mul, Nat.add_zero] at y0 y1 y2
      go_wp2_with fail
      refine (HA.out _).mono ?_
      rintro e w1 ⟨rfl, b1⟩
      go_wp2_with fail
      go_ret
      exact ⟨rfl, hB0.trans (b1.mono hB0.size)⟩
    · have z0 : ((n : Int) == 0) = false := beq_eq_false_iff_ne.2 (by omega)
      have z1 : ((n : Int) == 1) = false := beq_eq_false_iff_ne.2 (by omega)
      have y0 : (n == 0) = false := beq_eq_false_iff_ne.2 h0
      have y1 : (n == 1) = false := beq_eq_false_iff_ne.2 h1
      rw [y0, y1]
      have hB0 : Below W.heap.size W (W.alloc (.cells #[.int .i64 67, .string nm, .slice a n cap] 29)) := below_alloc1 _ _
      clear hl hk hn h0 h1 y0 y1
      go_enter Tryz.func36, Tryz.ntmps36
      go_wp2_with fail
      go_ret
      exact ⟨rfl, hB0⟩

set_option maxHeartbeats 1000000 in
set_option maxRecDepth 100000 in
theorem kid70 (nm : ByteArray) (a : Option Addr) (cap n : Nat) (L : List Kn) (W : World) (hl : L.length = n) (hn : n ≤ maxLen) (hk : Kids W W.heap.size a L) :
    Calls Tryz.prog 36 #[nodeV 70 nm a n cap] W fun e W' => e = .returned (.bool (allB L (fun y => y == 71) 0 n && (nm.toList.isEmpty || n == 0))) ∧ Below W.heap.size W W' := by
  have hmx : (n : Int) ≤ 9223372036854775807 := by simp only [maxLen] at hn; omega
  unfold nodeV
  have HA : Hid (∀ wx, Below W.heap.size W wx → Calls Tryz.prog 52 #[.agg #[.int .i64 70, .string nm, .slice a n cap], .int .i64 0, .int .i64 n, .int .u8 0, .int .i64 71] wx fun e W' => e = .returned (.bool (allB L (fun y => y == 71) 0 n)) ∧ Below wx.heap.size wx W') := fun wx hb =>
    mAllK 70 nm a cap n L 0 n 71 wx hl hn (Nat.le_refl _) (hk.at hb)
  have q1 := Box3.new W (.int .i64 70) (.string nm) (.slice a n cap) 29
  have hB0 : Below W.heap.size W (W.alloc (.cells #[.int .i64 70, .string nm, .slice a n cap] 29)) := below_alloc1 _ _
  clear hl hk hn
  cases hX : allB L (fun y => y == 71) 0 n with
  | false =>
    rw [hX] at HA
    clear hX
    go_enter Tryz.func36, Tryz.ntmps36
    go_upto_region 1 with fail
    generalize W.alloc (.cells #[.int .i64 70, .string nm, .slice a n cap] 29) = W0 at *
    obtain ⟨-, d0, d1, d2, -, -, -⟩ := id q1
    go_wp2_with fail
    refine (HA.out _ hB0).mono ?_
    rintro e w1 ⟨rfl, b1⟩
    go_wp2_with fail
    go_ret
    exact ⟨rfl, hB0.trans (b1.mono hB0.size)⟩
  | true =>
    rw [hX] at HA
    clear hX
    rcases z1 : nm.toList.isEmpty with _ | _
    · obtain ⟨Z, hZ⟩ : ∃ Z, ((n : Int) == 0) = Z := ⟨_, rfl⟩
      have hZ2 : (n == 0) = Z := by
        rw [← hZ]
        by_cases h : n = 0
        · rw [h]; rfl
        · rw [beq_eq_false_iff_ne.2 h, beq_eq_false_iff_ne.2 (by omega)]
      rw [hZ2]
      clear hZ2
      go_enter Tryz.func36, Tryz.ntmps36
      go_upto_region 1 with fail
      generalize W.alloc (.cells #[.int .i64 70, .string nm, .slice a n cap] 29) = W0 at *
      obtain ⟨-, d0, d1, d2, -, -, -⟩ := id q1
      go_wp2_with fail
      refine (HA.out _ hB0).mono ?_
      rintro e w1 ⟨rfl, b1⟩
      obtain ⟨-, f0, f1, f2, -, -, -⟩ := q1.below b1 q1.lt
      go_wp2_with fail
      go_ret
      exact ⟨rfl, hB0.trans (b1.mono hB0.size)⟩
    · go_enter Tryz.func36, Tryz.ntmps36
      go_upto_region 1 with fail
      generalize W.alloc (.cells #[.int .i64 70, .string nm, .slice a n cap] 29) = W0 at *
      obtain ⟨-, d0, d1, d2, -, -, -⟩ := id q1
      go_wp2_with fail
      refine (HA.out _ hB0).mono ?_
      rintro e w1 ⟨rfl, b1⟩
      obtain ⟨-, f0, f1, f2, -, -, -⟩ := q1.below b1 q1.lt
      go_wp2_with fail
      go_ret
      exact ⟨rfl, hB0.trans (b1.mono hB0.size)⟩

set_option maxHeartbeats 2000000 in
set_option maxRecDepth 100000 in
theorem kid14 (nm : ByteArray) (a : Option Addr) (cap n : Nat) (L : List Kn) (W : World) (hl : L.length = n) (hn : n ≤ maxLen) (hk : Kids W W.heap.size a L) :
    Calls Tryz.prog 31 #[nodeV 14 nm a n cap] W fun e W' => e = .returned (.bool (decide (2 ≤ n) && (allB L eK 0 1 && (L.drop 1).all (fun y => y.k == 22 || y.k == 23)))) ∧ Below W.heap.size W W' := by
  obtain ⟨T, hT⟩ : ∃ T, T = (decide (2 ≤ n) && (allB L eK 0 1 && (L.drop 1).all (fun y => y.k == 22 || y.k == 23))) := ⟨_, rfl⟩
  rw [← hT]
  have hmx : (n : Int) ≤ 9223372036854775807 := by simp only [maxLen] at hn; omega
  unfold nodeV
  by_cases h2 : 2 ≤ n
  · have h2' : ¬ (n : Int) < 2 := by omega
    rw [decide_eq_true h2, Bool.true_and] at hT
    obtain ⟨g, o, rfl, hg, hr⟩ := id hk (by omega)
    have HA : Hid (∀ wx, Below W.heap.size W wx → Calls Tryz.prog 52 #[.agg #[.int .i64 14, .string nm, .slice (some ⟨g, o, none⟩) n cap], .int .i64 0, .int .i64 1, .int .u8 101, .int .i64 0] wx fun e W' => e = .returned (.bool (allB L eK 0 1)) ∧ Below wx.heap.size wx W') := fun wx hb =>
      mAllE 14 nm _ cap n L 0 1 0 wx hl hn (by omega) (hk.at hb)
    have HR := hide hr
    have HL := hide hl
    have q1 := Box3.new W (.int .i64 14) (.string nm) (.slice (some ⟨g, o, none⟩) n cap) 29
    have hB0 : Below W.heap.size W (W.alloc (.cells #[.int .i64 14, .string nm, .slice (some ⟨g, o, none⟩) n cap] 29)) := below_alloc1 _ _
    clear hl hk hn hr
    cases hX : allB L eK 0 1 with
    | false =>
      rw [hX] at HA hT
      have HT : Hid (T = false) := hT
      clear hX hT h2
      go_enter Tryz.func31, Tryz.ntmps31
      go_upto_region 1 with fail
      generalize W.alloc (.cells #[.int .i64 14, .string nm, .slice (some ⟨g, o, none⟩) n cap] 29) = W0 at *
      obtain ⟨-, d0, d1, d2, -, -, -⟩ := id q1
      go_wp2_with fail
      refine (HA.out _ hB0).mono ?_
      rintro e w1 ⟨rfl, b1⟩
      go_wp2_with fail
      go_ret
      exact ⟨by rw [HT.out]; rfl, hB0.trans (b1.mono hB0.size)⟩
    | true =>
      rw [hX] at HA hT
      have HT : Hid (T = (L.drop 1).all (fun y => y.k == 22 || y.k == 23)) := hT
      clear hX hT
      have h1n : 1 ≤ n := by omega
      clear h2
      go_enter Tryz.func31, Tryz.ntmps31
      go_upto_region 1 with fail
      generalize W.alloc (.cells #[.int .i64 14, .string nm, .slice (some ⟨g, o, none⟩) n cap] 29) = W0 at *
      obtain ⟨-, d0, d1, d2, -, -, -⟩ := id q1
      go_wp2_with fail
      refine (HA.out _ hB0).mono ?_
      rintro e w1 ⟨rfl, b1⟩
      have hB1 := hB0.trans (b1.mono hB0.size)
      have HQ := hide (q1.below b1 q1.lt)
      clear d0 d1 d2 q1 HA
      go_wp2_with fail
      go_loopw [4] (fun s4 wr => ∃ i : Nat, s4 = .int .i64 i ∧ i ≤ n ∧ Hid (T = (L.drop i).all (fun y => y.k == 22 || y.k == 23)) ∧ wr = w1) (fun s4 _ => n - (intOf s4).toNat)
      case atStart => exact ⟨1, rfl, h1n, HT, rfl⟩
      case round =>
        obtain ⟨i, rfl, hin, HT', rfl⟩ := hrel
        obtain ⟨-, d0, d1, d2, -, -, -⟩ := HQ.out
        by_cases hi : i < n
        · have hi' : (i : Int) < n := by omega
          obtain ⟨y, hy⟩ : ∃ y, L[i]? = some y := ⟨_, List.getElem?_eq_getElem (by rw [HL.out]; exact hi)⟩
          have c0 := ((HR.out i y hy).below hB1 hg (Nat.le_refl _)).c0
          have HS := hide (HT'.out.trans (all_step (p := fun y => y.k == 22 || y.k == 23) hy))
          clear HT' hy
          generalize y.k = yk at *
          by_cases k1 : yk = 22
          · subst k1
            have HT2 : Hid (T = (L.drop (i + 1)).all (fun y => y.k == 22 || y.k == 23)) := HS.out
            clear HS
            go_wp2_with fail
            go_roundw
            case rel => exact ⟨i + 1, by go_num, by omega, HT2, trivial⟩
            case measure => simp [intOf]; omega
          · have k1' : (yk == 22) = false := beq_eq_false_iff_ne.2 k1
            have k1'' : (yk != 22) = true := by simpa using k1
            by_cases k2 : yk = 23
            · subst k2
              have HT2 : Hid (T = (L.drop (i + 1)).all (fun y => y.k == 22 || y.k == 23)) := HS.out
              clear HS k1
              go_wp2_with fail
              go_roundw
              case rel => exact ⟨i + 1, by go_num, by omega, HT2, trivial⟩
              case measure => simp [intOf]; omega
            · have k2' : (yk == 23) = false := beq_eq_false_iff_ne.2 k2
              have k2'' : (yk != 23) = true := by simpa using k2
              have HT2 : Hid (T = false) := by unfold Hid; rw [HS.out, k1', k2']; rfl
              clear HS k1 k2
              go_wp2_with fail
              go_ret
              exact ⟨by rw [HT2.out]; rfl, hB1⟩
        · have hi' : ¬ (i : Int) < n := by omega
          have HT2 : Hid (T = true) := HT'.out.trans (all_end (by rw [HL.out]; omega))
          clear HT'
          go_wp2_with fail
          go_ret
          exact ⟨by rw [HT2.out]; rfl, hB1⟩
  · have h2' : (n : Int) < 2 := by omega
    rw [decide_eq_false h2] at hT
    have HT : Hid (T = false) := hT
    have hB0 : Below W.heap.size W (W.alloc (.cells #[.int .i64 14, .string nm, .slice a n cap] 29)) := below_alloc1 _ _
    clear hl hk hn h2 hT
    go_enter Tryz.func31, Tryz.ntmps31
    go_wp2_with fail
    go_ret
    exact ⟨by rw [HT.out]; rfl, hB0⟩

end Go.Proofs.YtjfoagmenehapaaGreatDoor.Tree

