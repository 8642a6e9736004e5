import Derived.Test.YtjfoagmenehapaaGreatDoorQ28
import Derived.Shelf.Strings.SlTrimAscii
import Derived.Test.YtjfoagmenehapaaGreatDoorQ01
namespace Go.Proofs.YtjfoagmenehapaaGreatDoor.Tree
open Go.RowKit Go.Joins

/-- The contract of one class. -/
def ClsAt (c : ByteArray) (q : Kn → Bool) : Prop := ∀ (x : Kn) (W : World), x.ks.Sl W (fun b => b < W.heap.size) x.a x.cap → x.nm.size ≤ maxLen →
  Calls Tryz.prog 41 #[.agg #[.int .i64 x.k, .string x.nm, .slice x.a x.ks.len x.cap], .string c] W fun e W' => e = .returned (.bool (q x)) ∧ Below W.heap.size W W'

set_option maxHeartbeats 1000000 in
set_option maxRecDepth 100000 in
theorem iTop (k : Int) (w : World) : Calls Tryz.prog 68 #[.int .i64 k] w fun e w' => e = .returned (.bool (topK k)) ∧ w' = w := by
  have HC : Hid (∀ wx, Calls Tryz.prog 67 #[.int .i64 k] wx fun e w' => e = .returned (.bool (dK k)) ∧ w' = wx) := fun wx => iDecl k wx
  unfold topK
  cases hD : dK k with
  | true =>
    rw [hD] at HC
    clear hD
    go_enter Tryz.func68, Tryz.ntmps68
    go_wp2_with fail
    refine (HC.out _).mono ?_
    rintro e w2 ⟨rfl, rfl⟩
    go_wp2_with fail
    go_ret
    exact ⟨rfl, rfl⟩
  | false =>
    rw [hD] at HC
    clear hD
    rcases z1 : (k == 63) with _ | _
    · rcases z2 : (k == 65) with _ | _
      all_goals
        go_enter Tryz.func68, Tryz.ntmps68
        go_wp2_with fail
        refine (HC.out _).mono ?_
        rintro e w2 ⟨rfl, rfl⟩
        go_wp2_with fail
        go_ret
        exact ⟨rfl, rfl⟩
    · go_enter Tryz.func68, Tryz.ntmps68
      go_wp2_with fail
      refine (HC.out _).mono ?_
      rintro e w2 ⟨rfl, rfl⟩
      go_wp2_with fail
      go_ret
      exact ⟨rfl, rfl⟩

set_option maxHeartbeats 1000000 in
set_option maxRecDepth 100000 in
theorem cls_e : ClsAt ⟨#[101]⟩ (fun x => eK x.k) := by
  intro x W hs hnm
  have hB0 : Below W.heap.size W (W.alloc (.cells #[.int .i64 x.k, .string x.nm, .slice x.a x.ks.len x.cap] 29)) := below_alloc1 _ _
  have HC : Hid (∀ wx, Calls Tryz.prog 64 #[.int .i64 x.k] wx fun e w' => e = .returned (.bool (eK x.k)) ∧ w' = wx) := fun wx => iExpr x.k wx
  clear hs hnm
  show Calls _ _ _ _ fun e W' => e = .returned (.bool (eK x.k)) ∧ _
  generalize eK x.k = X at *
  go_enter Tryz.func41, Tryz.ntmps41
  go_wp2_with fail
  refine (HC.out _).mono ?_
  rintro e w2 ⟨rfl, rfl⟩
  go_wp2_with fail
  go_ret
  exact ⟨rfl, hB0⟩

set_option maxHeartbeats 1000000 in
set_option maxRecDepth 100000 in
theorem cls_p : ClsAt ⟨#[112]⟩ (fun x => pK x.k) := by
  intro x W hs hnm
  have hB0 : Below W.heap.size W (W.alloc (.cells #[.int .i64 x.k, .string x.nm, .slice x.a x.ks.len x.cap] 29)) := below_alloc1 _ _
  have HC : Hid (∀ wx, Calls Tryz.prog 65 #[.int .i64 x.k] wx fun e w' => e = .returned (.bool (pK x.k)) ∧ w' = wx) := fun wx => iPat x.k wx
  clear hs hnm
  show Calls _ _ _ _ fun e W' => e = .returned (.bool (pK x.k)) ∧ _
  generalize pK x.k = X at *
  go_enter Tryz.func41, Tryz.ntmps41
  go_wp2_with fail
  refine (HC.out _).mono ?_
  rintro e w2 ⟨rfl, rfl⟩
  go_wp2_with fail
  go_ret
  exact ⟨rfl, hB0⟩

set_option maxHeartbeats 1000000 in
set_option maxRecDepth 100000 in
theorem cls_t : ClsAt ⟨#[116]⟩ (fun x => tK x.k) := by
  intro x W hs hnm
  have hB0 : Below W.heap.size W (W.alloc (.cells #[.int .i64 x.k, .string x.nm, .slice x.a x.ks.len x.cap] 29)) := below_alloc1 _ _
  have HC : Hid (∀ wx, Calls Tryz.prog 66 #[.int .i64 x.k] wx fun e w' => e = .returned (.bool (tK x.k)) ∧ w' = wx) := fun wx => iType x.k wx
  clear hs hnm
  show Calls _ _ _ _ fun e W' => e = .returned (.bool (tK x.k)) ∧ _
  generalize tK x.k = X at *
  go_enter Tryz.func41, Tryz.ntmps41
  go_wp2_with fail
  refine (HC.out _).mono ?_
  rintro e w2 ⟨rfl, rfl⟩
  go_wp2_with fail
  go_ret
  exact ⟨rfl, hB0⟩

set_option maxHeartbeats 1000000 in
set_option maxRecDepth 100000 in
theorem cls_d : ClsAt ⟨#[100]⟩ (fun x => dK x.k) := by
  intro x W hs hnm
  have hB0 : Below W.heap.size W (W.alloc (.cells #[.int .i64 x.k, .string x.nm, .slice x.a x.ks.len x.cap] 29)) := below_alloc1 _ _
  have HC : Hid (∀ wx, Calls Tryz.prog 67 #[.int .i64 x.k] wx fun e w' => e = .returned (.bool (dK x.k)) ∧ w' = wx) := fun wx => iDecl x.k wx
  clear hs hnm
  show Calls _ _ _ _ fun e W' => e = .returned (.bool (dK x.k)) ∧ _
  generalize dK x.k = X at *
  go_enter Tryz.func41, Tryz.ntmps41
  go_wp2_with fail
  refine (HC.out _).mono ?_
  rintro e w2 ⟨rfl, rfl⟩
  go_wp2_with fail
  go_ret
  exact ⟨rfl, hB0⟩

set_option maxHeartbeats 1000000 in
set_option maxRecDepth 100000 in
theorem cls_top : ClsAt ⟨#[116, 111, 112]⟩ (fun x => topK x.k) := by
  intro x W hs hnm
  have hB0 : Below W.heap.size W (W.alloc (.cells #[.int .i64 x.k, .string x.nm, .slice x.a x.ks.len x.cap] 29)) := below_alloc1 _ _
  have HC : Hid (∀ wx, Calls Tryz.prog 68 #[.int .i64 x.k] wx fun e w' => e = .returned (.bool (topK x.k)) ∧ w' = wx) := fun wx => iTop x.k wx
  clear hs hnm
  show Calls _ _ _ _ fun e W' => e = .returned (.bool (topK x.k)) ∧ _
  generalize topK x.k = X at *
  go_enter Tryz.func41, Tryz.ntmps41
  go_wp2_with fail
  refine (HC.out _).mono ?_
  rintro e w2 ⟨rfl, rfl⟩
  go_wp2_with fail
  go_ret
  exact ⟨rfl, hB0⟩

set_option maxHeartbeats 1000000 in
set_option maxRecDepth 100000 in
theorem cls_oper : ClsAt ⟨#[111, 112, 101, 114]⟩ (fun x => (x.k == 1 || x.k == 2)) := by
  intro x W hs hnm
  have hB0 : Below W.heap.size W (W.alloc (.cells #[.int .i64 x.k, .string x.nm, .slice x.a x.ks.len x.cap] 29)) := below_alloc1 _ _
  clear hs hnm
  show Calls _ _ _ _ fun e W' => e = .returned (.bool (x.k == 1 || x.k == 2)) ∧ _
  rcases z : (x.k == 1) with _ | _
  all_goals
    go_enter Tryz.func41, Tryz.ntmps41
    go_wp2_with fail
    go_ret
    exact ⟨rfl, hB0⟩

set_option maxHeartbeats 1000000 in
set_option maxRecDepth 100000 in
theorem cls_pop : ClsAt ⟨#[112, 111, 112]⟩ (fun x => (x.k == 32 && x.ks.len == 0)) := by
  intro x W hs hnm
  have hB0 : Below W.heap.size W (W.alloc (.cells #[.int .i64 x.k, .string x.nm, .slice x.a x.ks.len x.cap] 29)) := below_alloc1 _ _
  clear hs hnm
  show Calls _ _ _ _ fun e W' => e = .returned (.bool (x.k == 32 && x.ks.len == 0)) ∧ _
  rcases z : (x.k == 32) with _ | _
  · go_enter Tryz.func41, Tryz.ntmps41
    go_wp2_with fail
    go_ret
    exact ⟨rfl, hB0⟩
  · obtain ⟨Z, hZ⟩ : ∃ Z, ((x.ks.len : Int) == 0) = Z := ⟨_, rfl⟩
    have hZ2 : (x.ks.len == 0) = Z := by
      rw [← hZ]
      by_cases h : x.ks.len = 0
      · rw [h]; rfl
      · rw [beq_eq_false_iff_ne.2 h, beq_eq_false_iff_ne.2 (by omega)]
    rw [hZ2]
    clear hZ2
    go_enter Tryz.func41, Tryz.ntmps41
    go_wp2_with fail
    go_ret
    exact ⟨rfl, hB0⟩

set_option maxHeartbeats 1000000 in
set_option maxRecDepth 100000 in
theorem cls_qual : ClsAt ⟨#[113, 117, 97, 108]⟩ (fun x => (x.k == 22 || x.k == 23)) := by
  intro x W hs hnm
  have hB0 : Below W.heap.size W (W.alloc (.cells #[.int .i64 x.k, .string x.nm, .slice x.a x.ks.len x.cap] 29)) := below_alloc1 _ _
  clear hs hnm
  show Calls _ _ _ _ fun e W' => e = .returned (.bool (x.k == 22 || x.k == 23)) ∧ _
  rcases z : (x.k == 22) with _ | _
  all_goals
    go_enter Tryz.func41, Tryz.ntmps41
    go_wp2_with fail
    go_ret
    exact ⟨rfl, hB0⟩

set_option maxHeartbeats 1000000 in
set_option maxRecDepth 100000 in
theorem cls_bound : ClsAt ⟨#[98, 111, 117, 110, 100]⟩ (fun x => bndB x) := by
  intro x W hs hnm
  have hB0 : Below W.heap.size W (W.alloc (.cells #[.int .i64 x.k, .string x.nm, .slice x.a x.ks.len x.cap] 29)) := below_alloc1 _ _
  have HSL := hide (hs.below hB0 (fun b x => x)).kids
  clear hs hnm
  obtain ⟨T, hT⟩ : ∃ T, T = bndB x := ⟨_, rfl⟩
  show Calls _ _ _ _ fun e W' => e = .returned (.bool (bndB x)) ∧ _
  rw [← hT]
  have hXk : T = (x.k == 52 && (match x.ks.list with | [y, z] => y.k == 51 && z.k == 50 | _ => false)) := hT
  clear hT
  have hll := x.ks.list_length
  generalize x.ks.list = KL at *
  generalize x.ks.len = xl at *
  generalize x.k = xk at *
  generalize x.nm = xn at *
  generalize x.a = xa at *
  generalize x.cap = xc at *
  by_cases z1 : xk = 52
  · subst z1
    by_cases z2 : xl = 2
    · subst z2
      match KL, hll with
      | [y, z], _ =>
        obtain ⟨b', o', rfl, -, hr'⟩ := HSL.out (by simp)
        have y0 := (hr' 0 y rfl).c0
        have w0 := (hr' 1 z rfl).c0
        have e1 : o' + 0 * 3 = o' := by omega
        have e2 : o' + 1 * 3 = o' + 3 := by omega
        rw [e1] at y0
        rw [e2] at w0
        have hX2 : T = (y.k == 51 && z.k == 50) := hXk
        clear hr' HSL hXk hll e1 e2
        generalize y.k = yk at *
        generalize z.k = zk at *
        rcases z3 : (yk == 51) with _ | _
        · have HT2 : Hid (T = false) := by unfold Hid; rw [hX2, z3]; rfl
          clear hX2
          have q2 := Box3.new W (.int .i64 52) (.string xn) (.slice (some ⟨b', o', none⟩) 2 xc) 29
          go_enter Tryz.func41, Tryz.ntmps41
          go_upto_region 1 with fail
          generalize W.alloc (.cells #[.int .i64 52, .string xn, .slice (some ⟨b', o', none⟩) 2 xc] 29) = W2 at *
          obtain ⟨-, e0, e1, e2, -, -, -⟩ := q2
          go_wp2_with fail
          go_ret
          exact ⟨by rw [HT2.out]; rfl, hB0⟩
        · rcases z4 : (zk == 50) with _ | _
          · have HT2 : Hid (T = false) := by unfold Hid; rw [hX2, z3, z4]; rfl
            clear hX2
            have q2 := Box3.new W (.int .i64 52) (.string xn) (.slice (some ⟨b', o', none⟩) 2 xc) 29
            go_enter Tryz.func41, Tryz.ntmps41
            go_upto_region 1 with fail
            generalize W.alloc (.cells #[.int .i64 52, .string xn, .slice (some ⟨b', o', none⟩) 2 xc] 29) = W2 at *
            obtain ⟨-, e0, e1, e2, -, -, -⟩ := q2
            go_wp2_with fail
            go_ret
            exact ⟨by rw [HT2.out]; rfl, hB0⟩
          · have HT2 : Hid (T = true) := by unfold Hid; rw [hX2, z3, z4]; rfl
            clear hX2
            have q2 := Box3.new W (.int .i64 52) (.string xn) (.slice (some ⟨b', o', none⟩) 2 xc) 29
            go_enter Tryz.func41, Tryz.ntmps41
            go_upto_region 1 with fail
            generalize W.alloc (.cells #[.int .i64 52, .string xn, .slice (some ⟨b', o', none⟩) 2 xc] 29) = W2 at *
            obtain ⟨-, e0, e1, e2, -, -, -⟩ := q2
            go_wp2_with fail
            go_ret
            exact ⟨by rw [HT2.out]; rfl, hB0⟩
    · have HT2 : Hid (T = false) := by
        unfold Hid
        rw [hXk]
        match KL, hll with
        | [], _ => rfl
        | [_], _ => rfl
        | [_, _], h => exact absurd h.symm z2
        | _ :: _ :: _ :: _, _ => rfl
      have z2' : ((xl : Int) == 2) = false := beq_eq_false_iff_ne.2 (by omega)
      clear hXk z2 HSL hll
      have q2 := Box3.new W (.int .i64 52) (.string xn) (.slice xa xl xc) 29
      go_enter Tryz.func41, Tryz.ntmps41
      go_upto_region 1 with fail
      generalize W.alloc (.cells #[.int .i64 52, .string xn, .slice xa xl xc] 29) = W2 at *
      obtain ⟨-, e0, e1, e2, -, -, -⟩ := q2
      go_wp2_with fail
      go_ret
      exact ⟨by rw [HT2.out]; rfl, hB0⟩
  · have HT2 : Hid (T = false) := by unfold Hid; rw [hXk]; simp [z1]
    have z1' : (xk == 52) = false := beq_eq_false_iff_ne.2 z1
    clear hXk z1 HSL hll
    have q2 := Box3.new W (.int .i64 xk) (.string xn) (.slice xa xl xc) 29
    go_enter Tryz.func41, Tryz.ntmps41
    go_upto_region 1 with fail
    generalize W.alloc (.cells #[.int .i64 xk, .string xn, .slice xa xl xc] 29) = W2 at *
    obtain ⟨-, e0, e1, e2, -, -, -⟩ := q2
    go_wp2_with fail
    go_ret
    exact ⟨by rw [HT2.out]; rfl, hB0⟩

set_option maxHeartbeats 1000000 in
set_option maxRecDepth 100000 in
theorem cls_level : ClsAt ⟨#[108, 101, 118, 101, 108]⟩ (fun x => (x.k == 3 && x.nm.size == 1)) := by
  intro x W hs hnm
  have hB0 : Below W.heap.size W (W.alloc (.cells #[.int .i64 x.k, .string x.nm, .slice x.a x.ks.len x.cap] 29)) := below_alloc1 _ _
  clear hs
  show Calls _ _ _ _ fun e W' => e = .returned (.bool (x.k == 3 && x.nm.size == 1)) ∧ _
  rcases z : (x.k == 3) with _ | _
  · clear hnm
    go_enter Tryz.func41, Tryz.ntmps41
    go_wp2_with fail
    go_ret
    exact ⟨rfl, hB0⟩
  · obtain ⟨Z, hZ⟩ : ∃ Z, ((x.nm.size : Int) == 1) = Z := ⟨_, rfl⟩
    have hZ2 : (x.nm.size == 1) = Z := by
      rw [← hZ]
      by_cases h : x.nm.size = 1
      · rw [h]; rfl
      · rw [beq_eq_false_iff_ne.2 h, beq_eq_false_iff_ne.2 (by omega)]
    rw [hZ2]
    clear hZ2 hnm
    go_enter Tryz.func41, Tryz.ntmps41
    go_wp2_with fail
    go_ret
    exact ⟨rfl, hB0⟩

set_option maxHeartbeats 1000000 in
set_option maxRecDepth 100000 in
theorem cls_names : ClsAt ⟨#[110, 97, 109, 101, 115]⟩ (fun x => plainB x.k x.nm) := by
  intro x W hs hnm
  have hB0 : Below W.heap.size W (W.alloc (.cells #[.int .i64 x.k, .string x.nm, .slice x.a x.ks.len x.cap] 29)) := below_alloc1 _ _
  clear hs hnm
  show Calls _ _ _ _ fun e W' => e = .returned (.bool (plainB x.k x.nm)) ∧ _
  unfold plainB
  rcases z : (x.k == 70) with _ | _
  all_goals
    go_enter Tryz.func41, Tryz.ntmps41
    go_wp2_with fail
    go_ret
    exact ⟨rfl, hB0⟩

set_option maxHeartbeats 1000000 in
set_option maxRecDepth 100000 in
theorem cls_exports : ClsAt ⟨#[101, 120, 112, 111, 114, 116, 115]⟩ (fun x => x.k == 70) := by
  intro x W hs hnm
  have hB0 : Below W.heap.size W (W.alloc (.cells #[.int .i64 x.k, .string x.nm, .slice x.a x.ks.len x.cap] 29)) := below_alloc1 _ _
  clear hs hnm
  show Calls _ _ _ _ fun e W' => e = .returned (.bool (x.k == 70)) ∧ _
  go_enter Tryz.func41, Tryz.ntmps41
  go_wp2_with fail
  go_ret
  exact ⟨rfl, hB0⟩

set_option maxHeartbeats 1000000 in
set_option maxRecDepth 100000 in
theorem cls_alt : ClsAt ⟨#[97, 108, 116]⟩ (fun x => x.k == 19) := by
  intro x W hs hnm
  have hB0 : Below W.heap.size W (W.alloc (.cells #[.int .i64 x.k, .string x.nm, .slice x.a x.ks.len x.cap] 29)) := below_alloc1 _ _
  clear hs hnm
  show Calls _ _ _ _ fun e W' => e = .returned (.bool (x.k == 19)) ∧ _
  go_enter Tryz.func41, Tryz.ntmps41
  go_wp2_with fail
  go_ret
  exact ⟨rfl, hB0⟩

set_option maxHeartbeats 1000000 in
set_option maxRecDepth 100000 in
theorem cls_rhs : ClsAt ⟨#[114, 104, 115]⟩ (fun x => x.k == 20) := by
  intro x W hs hnm
  have hB0 : Below W.heap.size W (W.alloc (.cells #[.int .i64 x.k, .string x.nm, .slice x.a x.ks.len x.cap] 29)) := below_alloc1 _ _
  clear hs hnm
  show Calls _ _ _ _ fun e W' => e = .returned (.bool (x.k == 20)) ∧ _
  go_enter Tryz.func41, Tryz.ntmps41
  go_wp2_with fail
  go_ret
  exact ⟨rfl, hB0⟩

set_option maxHeartbeats 1000000 in
set_option maxRecDepth 100000 in
theorem cls_guard : ClsAt ⟨#[103, 117, 97, 114, 100]⟩ (fun x => x.k == 21) := by
  intro x W hs hnm
  have hB0 : Below W.heap.size W (W.alloc (.cells #[.int .i64 x.k, .string x.nm, .slice x.a x.ks.len x.cap] 29)) := below_alloc1 _ _
  clear hs hnm
  show Calls _ _ _ _ fun e W' => e = .returned (.bool (x.k == 21)) ∧ _
  go_enter Tryz.func41, Tryz.ntmps41
  go_wp2_with fail
  go_ret
  exact ⟨rfl, hB0⟩

set_option maxHeartbeats 1000000 in
set_option maxRecDepth 100000 in
theorem cls_tvar : ClsAt ⟨#[116, 118, 97, 114]⟩ (fun x => x.k == 50) := by
  intro x W hs hnm
  have hB0 : Below W.heap.size W (W.alloc (.cells #[.int .i64 x.k, .string x.nm, .slice x.a x.ks.len x.cap] 29)) := below_alloc1 _ _
  clear hs hnm
  show Calls _ _ _ _ fun e W' => e = .returned (.bool (x.k == 50)) ∧ _
  go_enter Tryz.func41, Tryz.ntmps41
  go_wp2_with fail
  go_ret
  exact ⟨rfl, hB0⟩

set_option maxHeartbeats 1000000 in
set_option maxRecDepth 100000 in
theorem cls_sig : ClsAt ⟨#[115, 105, 103]⟩ (fun x => x.k == 60) := by
  intro x W hs hnm
  have hB0 : Below W.heap.size W (W.alloc (.cells #[.int .i64 x.k, .string x.nm, .slice x.a x.ks.len x.cap] 29)) := below_alloc1 _ _
  clear hs hnm
  show Calls _ _ _ _ fun e W' => e = .returned (.bool (x.k == 60)) ∧ _
  go_enter Tryz.func41, Tryz.ntmps41
  go_wp2_with fail
  go_ret
  exact ⟨rfl, hB0⟩

set_option maxHeartbeats 1000000 in
set_option maxRecDepth 100000 in
theorem cls_clause : ClsAt ⟨#[99, 108, 97, 117, 115, 101]⟩ (fun x => x.k == 61) := by
  intro x W hs hnm
  have hB0 : Below W.heap.size W (W.alloc (.cells #[.int .i64 x.k, .string x.nm, .slice x.a x.ks.len x.cap] 29)) := below_alloc1 _ _
  clear hs hnm
  show Calls _ _ _ _ fun e W' => e = .returned (.bool (x.k == 61)) ∧ _
  go_enter Tryz.func41, Tryz.ntmps41
  go_wp2_with fail
  go_ret
  exact ⟨rfl, hB0⟩

set_option maxHeartbeats 1000000 in
set_option maxRecDepth 100000 in
theorem cls_constr : ClsAt ⟨#[99, 111, 110, 115, 116, 114]⟩ (fun x => x.k == 64) := by
  intro x W hs hnm
  have hB0 : Below W.heap.size W (W.alloc (.cells #[.int .i64 x.k, .string x.nm, .slice x.a x.ks.len x.cap] 29)) := below_alloc1 _ _
  clear hs hnm
  show Calls _ _ _ _ fun e W' => e = .returned (.bool (x.k == 64)) ∧ _
  go_enter Tryz.func41, Tryz.ntmps41
  go_wp2_with fail
  go_ret
  exact ⟨rfl, hB0⟩

set_option maxHeartbeats 1000000 in
set_option maxRecDepth 100000 in
theorem cls_import : ClsAt ⟨#[105, 109, 112, 111, 114, 116]⟩ (fun x => x.k == 67) := by
  intro x W hs hnm
  have hB0 : Below W.heap.size W (W.alloc (.cells #[.int .i64 x.k, .string x.nm, .slice x.a x.ks.len x.cap] 29)) := below_alloc1 _ _
  clear hs hnm
  show Calls _ _ _ _ fun e W' => e = .returned (.bool (x.k == 67)) ∧ _
  go_enter Tryz.func41, Tryz.ntmps41
  go_wp2_with fail
  go_ret
  exact ⟨rfl, hB0⟩

set_option maxHeartbeats 1000000 in
set_option maxRecDepth 100000 in
theorem cls_context : ClsAt ⟨#[99, 111, 110, 116, 101, 120, 116]⟩ (fun x => x.k == 69) := by
  intro x W hs hnm
  have hB0 : Below W.heap.size W (W.alloc (.cells #[.int .i64 x.k, .string x.nm, .slice x.a x.ks.len x.cap] 29)) := below_alloc1 _ _
  clear hs hnm
  show Calls _ _ _ _ fun e W' => e = .returned (.bool (x.k == 69)) ∧ _
  go_enter Tryz.func41, Tryz.ntmps41
  go_wp2_with fail
  go_ret
  exact ⟨rfl, hB0⟩

set_option maxHeartbeats 1000000 in
set_option maxRecDepth 100000 in
theorem cls_item : ClsAt ⟨#[105, 116, 101, 109]⟩ (fun x => x.k == 71) := by
  intro x W hs hnm
  have hB0 : Below W.heap.size W (W.alloc (.cells #[.int .i64 x.k, .string x.nm, .slice x.a x.ks.len x.cap] 29)) := below_alloc1 _ _
  clear hs hnm
  show Calls _ _ _ _ fun e W' => e = .returned (.bool (x.k == 71)) ∧ _
  go_enter Tryz.func41, Tryz.ntmps41
  go_wp2_with fail
  go_ret
  exact ⟨rfl, hB0⟩

end Go.Proofs.YtjfoagmenehapaaGreatDoor.Tree

namespace Go.Proofs.YtjfoagmenehapaaGreatDoor.Tree
open Go.RowKit Go.Joins

/-- How many kids of a class stand at the beginning. -/
def run (q : Kn → Bool) (L : List Kn) : Nat := (L.takeWhile q).length

theorem run_nil (q : Kn → Bool) : run q [] = 0 := rfl
theorem run_yes {q : Kn → Bool} {x : Kn} {R : List Kn} (h : q x = true) : run q (x :: R) = 1 + run q R := by
  unfold run
  rw [List.takeWhile_cons, h, if_pos rfl, List.length_cons, Nat.add_comm]
theorem run_no {q : Kn → Bool} {x : Kn} {R : List Kn} (h : q x = false) : run q (x :: R) = 0 := by
  unfold run
  rw [List.takeWhile_cons, h]
  rfl
theorem run_le (q : Kn → Bool) : ∀ L : List Kn, run q L ≤ L.length
  | [] => Nat.le_refl _
  | x :: R => by
    cases h : q x with
    | true => rw [run_yes h, List.length_cons]; have := run_le q R; omega
    | false => rw [run_no h]; omega

set_option maxHeartbeats 2000000 in
set_option maxRecDepth 100000 in
theorem iRun (c : ByteArray) (q : Kn → Bool) (hq : ClsAt c q) (a : Option Addr) (n cap : Nat) (L : List Kn) (W : World) (hl : L.length = n) (hn : n ≤ maxLen) (hk : Kids W W.heap.size a L) :
    Calls Tryz.prog 46 #[.slice a n cap, .string c] W fun e W' => e = .returned (.int .i64 (run q L)) ∧ Below W.heap.size W W' := by
  have hmx : (n : Int) ≤ 9223372036854775807 := by simp only [maxLen] at hn; omega
  obtain ⟨T, hT⟩ : ∃ T, T = run q L := ⟨_, rfl⟩
  rw [← hT]
  have HT : Hid (T = 0 + run q (L.drop 0)) := by unfold Hid; rw [hT, Nat.zero_add]; rfl
  have HL := hide hl
  have HK := hide hk
  have HC : Hid (∀ (x : Kn) (W : World), x.ks.Sl W (fun b => b < W.heap.size) x.a x.cap → x.nm.size ≤ maxLen → Calls Tryz.prog 41 #[.agg #[.int .i64 x.k, .string x.nm, .slice x.a x.ks.len x.cap], .string c] W fun e W' => e = .returned (.bool (q x)) ∧ Below W.heap.size W W') := hq
  clear hT hl hk hn hq
  go_enter Tryz.func46, Tryz.ntmps46
  go_wp2_with fail
  go_loopw [5, 6, 9] (fun _ _ s9 wr => ∃ i : Nat, s9 = .int .i64 i ∧ i ≤ n ∧ Hid (T = i + run q (L.drop i)) ∧ Below W.heap.size W wr) (fun _ _ s9 _ => n - (intOf s9).toNat)
  case atStart => exact ⟨0, rfl, Nat.zero_le _, HT, Below.refl _ _⟩
  case round =>
    obtain ⟨i, rfl, hin, HT', bel⟩ := hrel
    by_cases hi : i < n
    · have hi' : (i : Int) < n := by omega
      obtain ⟨g, o, rfl, hg, hr⟩ := (HK.out.below bel (Nat.le_refl _)) (by rw [HL.out]; omega)
      obtain ⟨x, hx⟩ : ∃ x, L[i]? = some x := ⟨_, List.getElem?_eq_getElem (by rw [HL.out]; exact hi)⟩
      obtain ⟨-, hnl, c0, c1, c2, sl⟩ := hr i x hx
      have hbx := below_alloc1 wr (.cells #[.int .i64 x.k, .string x.nm, .slice x.a x.ks.len x.cap] 29)
      have hB2 := bel.trans (hbx.mono bel.size)
      have q2 := Box3.new wr (.int .i64 x.k) (.string x.nm) (.slice x.a x.ks.len x.cap) 29
      have H1 := hide (HC.out x (wr.alloc (.cells #[.int .i64 x.k, .string x.nm, .slice x.a x.ks.len x.cap] 29)) ((sl.below hbx (fun b hb => by have := bel.size; omega)).mono (fun b hb => by have := hB2.size; omega)) hnl)
      have hds := drop_step hx
      cases hX : q x with
      | false =>
        rw [hX] at H1
        have HT2 : Hid (T = i) := by unfold Hid; rw [HT'.out, hds, run_no hX, Nat.add_zero]
        clear HT' hds hX hx hr sl hnl HC
        go_upto_region 4 with fail
        generalize wr.alloc (.cells #[.int .i64 x.k, .string x.nm, .slice x.a x.ks.len x.cap] 29) = W2 at *
        obtain ⟨-, e0, e1, e2, -, -, -⟩ := q2
        go_wp2_with fail
        refine H1.out.mono ?_
        rintro e w2 ⟨rfl, b2⟩
        go_wp2_with fail
        go_ret
        exact ⟨by rw [HT2.out]; rfl, hB2.trans (b2.mono hB2.size)⟩
      | true =>
        rw [hX] at H1
        have HT2 : Hid (T = (i + 1) + run q (L.drop (i + 1))) := by unfold Hid; rw [HT'.out, hds, run_yes hX]; omega
        clear HT' hds hX hx hr sl hnl HC
        go_upto_region 4 with fail
        generalize wr.alloc (.cells #[.int .i64 x.k, .string x.nm, .slice x.a x.ks.len x.cap] 29) = W2 at *
        obtain ⟨-, e0, e1, e2, -, -, -⟩ := q2
        go_wp2_with fail
        refine H1.out.mono ?_
        rintro e w2 ⟨rfl, b2⟩
        have c2' := hB2.trans (b2.mono hB2.size)
        go_wp2_with fail
        go_roundw
        case rel => exact ⟨i + 1, by go_num, by omega, HT2, c2'⟩
        case measure => simp [intOf]; omega
    · have hi' : ¬ (i : Int) < n := by omega
      have HT2 : Hid (T = n) := by
        unfold Hid
        rw [HT'.out, List.drop_eq_nil_of_le (by rw [HL.out]; omega), run_nil]
        omega
      clear HT' HC
      go_wp2_with fail
      go_ret
      exact ⟨by rw [HT2.out]; rfl, bel⟩

/-- Two classes by turns. -/
def altB (q0 q1 : Kn → Bool) : Bool → List Kn → Bool
  | _, [] => true
  | false, x :: R => q0 x && altB q0 q1 true R
  | true, x :: R => q1 x && altB q0 q1 false R
theorem alt_even {q0 q1 : Kn → Bool} {L : List Kn} {i : Nat} {x : Kn} (hx : L[i]? = some x) (h : i % 2 = 0) : altB q0 q1 (decide (i % 2 = 1)) (L.drop i) = (q0 x && altB q0 q1 (decide ((i + 1) % 2 = 1)) (L.drop (i + 1))) := by
  rw [drop_step hx, decide_eq_false (by omega), decide_eq_true (by omega)]
  rfl
theorem alt_odd {q0 q1 : Kn → Bool} {L : List Kn} {i : Nat} {x : Kn} (hx : L[i]? = some x) (h : i % 2 = 1) : altB q0 q1 (decide (i % 2 = 1)) (L.drop i) = (q1 x && altB q0 q1 (decide ((i + 1) % 2 = 1)) (L.drop (i + 1))) := by
  rw [drop_step hx, decide_eq_true h, decide_eq_false (by omega)]
  rfl

set_option maxHeartbeats 2000000 in
set_option maxRecDepth 100000 in
theorem iTurns (s c : ByteArray) (q0 q1 : Kn → Bool) (hq0 : ClsAt s q0) (hq1 : ClsAt c q1) (a : Option Addr) (n cap : Nat) (L : List Kn) (W : World) (hl : L.length = n) (hn : n ≤ maxLen) (hk : Kids W W.heap.size a L) :
    Calls Tryz.prog 26 #[.slice a n cap, .string s, .string c] W fun e W' => e = .returned (.bool (altB q0 q1 false L && (decide (1 < n) && n % 2 == 1))) ∧ Below W.heap.size W W' := by
  have hmx : (n : Int) ≤ 9223372036854775807 := by simp only [maxLen] at hn; omega
  obtain ⟨T, hT⟩ : ∃ T, T = (altB q0 q1 false L && (decide (1 < n) && n % 2 == 1)) := ⟨_, rfl⟩
  rw [← hT]
  have HT : Hid (T = (altB q0 q1 (decide (0 % 2 = 1)) (L.drop 0) && (decide (1 < n) && n % 2 == 1))) := hT
  have HL := hide hl
  have HK := hide hk
  have H0 : Hid (∀ (x : Kn) (W : World), x.ks.Sl W (fun b => b < W.heap.size) x.a x.cap → x.nm.size ≤ maxLen → Calls Tryz.prog 41 #[.agg #[.int .i64 x.k, .string x.nm, .slice x.a x.ks.len x.cap], .string s] W fun e W' => e = .returned (.bool (q0 x)) ∧ Below W.heap.size W W') := hq0
  have H1 : Hid (∀ (x : Kn) (W : World), x.ks.Sl W (fun b => b < W.heap.size) x.a x.cap → x.nm.size ≤ maxLen → Calls Tryz.prog 41 #[.agg #[.int .i64 x.k, .string x.nm, .slice x.a x.ks.len x.cap], .string c] W fun e W' => e = .returned (.bool (q1 x)) ∧ Below W.heap.size W W') := hq1
  have hrn := rem2 n
  clear hT hl hk hn hq0 hq1
  go_enter Tryz.func26, Tryz.ntmps26
  go_wp2_with fail
  go_loopw [7, 8, 9, 12] (fun _ _ _ s12 wr => ∃ i : Nat, s12 = .int .i64 i ∧ i ≤ n ∧ Hid (T = (altB q0 q1 (decide (i % 2 = 1)) (L.drop i) && (decide (1 < n) && n % 2 == 1))) ∧ Below W.heap.size W wr) (fun _ _ _ s12 _ => n - (intOf s12).toNat)
  case atStart => exact ⟨0, rfl, Nat.zero_le _, HT, Below.refl _ _⟩
  case round =>
    obtain ⟨i, rfl, hin, HT', bel⟩ := hrel
    have hri := rem2 i
    by_cases hi : i < n
    · have hi' : (i : Int) < n := by omega
      obtain ⟨g, o, rfl, hg, hr⟩ := (HK.out.below bel (Nat.le_refl _)) (by rw [HL.out]; omega)
      obtain ⟨x, hx⟩ : ∃ x, L[i]? = some x := ⟨_, List.getElem?_eq_getElem (by rw [HL.out]; exact hi)⟩
      obtain ⟨-, hnl, c0, c1, c2, sl⟩ := hr i x hx
      have hbx := below_alloc1 wr (.cells #[.int .i64 x.k, .string x.nm, .slice x.a x.ks.len x.cap] 29)
      have hB2 := bel.trans (hbx.mono bel.size)
      have q2 := Box3.new wr (.int .i64 x.k) (.string x.nm) (.slice x.a x.ks.len x.cap) 29
      have hsx := (sl.below hbx (fun b hb => by have := bel.size; omega)).mono (T := fun b => b < (wr.alloc (.cells #[.int .i64 x.k, .string x.nm, .slice x.a x.ks.len x.cap] 29)).heap.size) (fun b hb => by have := hB2.size; omega)
      by_cases h2 : i % 2 = 0
      · have HS := hide (HT'.out.trans (by rw [alt_even hx h2]))
        have HC := hide (H0.out x _ hsx hnl)
        rw [h2] at hri
        clear HT' hx hr sl hnl H0 H1 hsx h2
        go_upto_region 4 with fail
        generalize wr.alloc (.cells #[.int .i64 x.k, .string x.nm, .slice x.a x.ks.len x.cap] 29) = W2 at *
        obtain ⟨-, e0, e1, e2, -, -, -⟩ := q2
        generalize q0 x = X at *
        cases X with
        | false =>
          have HT2 : Hid (T = false) := HS.out
          clear HS
          go_wp2_with fail
          refine HC.out.mono ?_
          rintro e w2 ⟨rfl, b2⟩
          go_wp2_with fail
          go_ret
          exact ⟨by rw [HT2.out]; rfl, hB2.trans (b2.mono hB2.size)⟩
        | true =>
          have HT2 : Hid (T = (altB q0 q1 (decide ((i + 1) % 2 = 1)) (L.drop (i + 1)) && (decide (1 < n) && n % 2 == 1))) := HS.out
          clear HS
          go_wp2_with fail
          refine HC.out.mono ?_
          rintro e w2 ⟨rfl, b2⟩
          have c2' := hB2.trans (b2.mono hB2.size)
          go_wp2_with fail
          go_roundw
          case rel => exact ⟨i + 1, by go_num, by omega, HT2, c2'⟩
          case measure => simp [intOf]; omega
      · have h2' : i % 2 = 1 := by omega
        have HS := hide (HT'.out.trans (by rw [alt_odd hx h2']))
        have HC := hide (H1.out x _ hsx hnl)
        rw [h2'] at hri
        clear HT' hx hr sl hnl H0 H1 hsx h2 h2'
        go_upto_region 4 with fail
        generalize wr.alloc (.cells #[.int .i64 x.k, .string x.nm, .slice x.a x.ks.len x.cap] 29) = W2 at *
        obtain ⟨-, e0, e1, e2, -, -, -⟩ := q2
        generalize q1 x = X at *
        cases X with
        | false =>
          have HT2 : Hid (T = false) := HS.out
          clear HS
          go_wp2_with fail
          refine HC.out.mono ?_
          rintro e w2 ⟨rfl, b2⟩
          go_wp2_with fail
          go_ret
          exact ⟨by rw [HT2.out]; rfl, hB2.trans (b2.mono hB2.size)⟩
        | true =>
          have HT2 : Hid (T = (altB q0 q1 (decide ((i + 1) % 2 = 1)) (L.drop (i + 1)) && (decide (1 < n) && n % 2 == 1))) := HS.out
          clear HS
          go_wp2_with fail
          refine HC.out.mono ?_
          rintro e w2 ⟨rfl, b2⟩
          have c2' := hB2.trans (b2.mono hB2.size)
          go_wp2_with fail
          go_roundw
          case rel => exact ⟨i + 1, by go_num, by omega, HT2, c2'⟩
          case measure => simp [intOf]; omega
    · have hi' : ¬ (i : Int) < n := by omega
      have hT2 : T = (decide (1 < n) && n % 2 == 1) := by
        rw [HT'.out, List.drop_eq_nil_of_le (by rw [HL.out]; omega)]
        cases decide (i % 2 = 1) <;> rfl
      clear HT' H0 H1 hri
      by_cases h1 : 1 < n
      · have h1' : (1 : Int) < n := by omega
        rw [decide_eq_true h1] at hT2
        by_cases h2 : n % 2 = 1
        · rw [h2] at hrn hT2
          have HT2 : Hid (T = true) := hT2
          clear hT2 h1 h2
          go_wp2_with fail
          go_ret
          exact ⟨by rw [HT2.out]; rfl, bel⟩
        · have h2' : n % 2 = 0 := by omega
          rw [h2'] at hrn hT2
          have HT2 : Hid (T = false) := hT2
          clear hT2 h1 h2 h2'
          go_wp2_with fail
          go_ret
          exact ⟨by rw [HT2.out]; rfl, bel⟩
      · have h1' : ¬ (1 : Int) < n := by omega
        rw [decide_eq_false h1] at hT2
        have HT2 : Hid (T = false) := hT2
        clear hT2 h1
        go_wp2_with fail
        go_ret
        exact ⟨by rw [HT2.out]; rfl, bel⟩

/-- The law's own trimming of the signs. -/
def trimP (p : ByteArray) : ByteArray := ⟨(Lib.trimRightS p.data.toList [43, 42]).toArray⟩
theorem iTrim (p : ByteArray) (w : World) (hs : p.size ≤ 9223372036854775807) :
    Calls Tryz.prog 45 #[.string p, .string ⟨#[43, 42]⟩] w fun e w' => e = .returned (.string (trimP p)) ∧ Below w.heap.size w w' :=
  Any.strings_TrimRight_laid Tryz.lays162 (by kernel_rfl) p ⟨#[43, 42]⟩ w hs (by decide) (fun j b h => by
    match j, h with
    | 0, h => cases h; decide
    | 1, h => cases h; decide
    | j + 2, h => simp at h)

end Go.Proofs.YtjfoagmenehapaaGreatDoor.Tree

namespace Go.Proofs.YtjfoagmenehapaaGreatDoor.Tree
open Go.RowKit Go.Shelf

/-- The iterator's contract: it writes blocks of its own alone; a round keeps those and the blocks of S. -/
def SeqS {P : Program} (F : Fence) (n : Nat) (g : Nat) (lb : Array Value) (encs : Nat → Array Value) (N : Nat) (S : Nat → Prop) (w : World) : Prop :=
  ∀ (l : Nat) (J Jx : Nat → (Nat → Prop) → World → Prop) (W : World), Below w.heap.size w W → Abid J → Abid Jx →
    (∀ (k : Nat) (O : Nat → Prop) (W1 : World), k < N → (∀ b, O b → NB W1 b) → J k O W1 → YieldAt F (n - 1) P l (encs k) W1 fun e W' =>
      Kept (fun b => O b ∨ S b) W1 W' ∧ ((e = .returned (.bool true) ∧ J (k + 1) O W') ∨ (e = .returned (.bool false) ∧ Jx k O W'))) →
    J 0 (fun _ => False) W →
    CallsIn F n P g (#[.func (.yield l) #[] #[]] ++ lb) W fun e W' => (∃ v, e = .returned v) ∧ ((∃ O, J N O W') ∨ (∃ k O, k < N ∧ Jx k O W'))

/-- How a round's body may be left. -/
def roundOwnS (S : Nat → Prop) (I : Nat → (Nat → Prop) → World → Prop) (Ix : Code → Nat → (Nat → Prop) → World → Prop) (k : Nat) (O : Nat → Prop) (W : World) : Exit → Act → World → Prop
  | .normal, _, W' => Kept (fun b => O b ∨ S b) W W' ∧ I (k + 1) O W'
  | .ret, _, W' => Kept (fun b => O b ∨ S b) W W' ∧ Ix .ret k O W'
  | .exit id, _, W' => Kept (fun b => O b ∨ S b) W W' ∧ Ix (.exit id) k O W'
  | .goto t, _, W' => Kept (fun b => O b ∨ S b) W W' ∧ Ix (.goto t) k O W'
  | .panic _, _, _ => False
  | .outgrown, _, _ => False

theorem wpIn_rangeS {F : Fence} {n : Nat} {P : Program} {g : Operand} {ps : Array Tmp} {assign body : Code} {Q : Exit → Act → World → Prop} {a : Act} {w : World}
    (hro : F.round = none) (h1 : 1 ≤ n) {gf : Nat} {lb : Array Value} (hg : a.eval g = .func (.func gf) #[] lb) (hFg : F.fn gf)
    (eg : ∀ args w, (callFunc gf args).run P w = .ok (.enter gf args) w) {encs : Nat → Array Value} {N : Nat} {S : Nat → Prop} {w0 : World}
    (hseq : SeqS (P := P) F (n - 1) gf lb encs N S w0) (hb0 : Below w0.heap.size w0 w) (hn0 : ∀ b, S b → b < w.heap.size) (hps : ∀ k, (encs k).size = ps.size)
    (I : Nat → (Nat → Prop) → World → Prop) (Ix : Code → Nat → (Nat → Prop) → World → Prop) (hI : Abid I) (hIx : ∀ c, Abid (Ix c)) (h0 : I 0 (fun _ => False) w)
    (Ax : Nat → (Nat → Prop) → Act → World → Prop)
    (hassign : ∀ (l k : Nat) (O : Nat → Prop) (W : World) (K : Act → World → Prop), k < N → (∀ b, O b → NB W b) → I k O W → (∀ a' W', Kept (fun _ => True) W W' → I k O W' → Ax k O a' W' → K a' W') →
      assign.wpIn (F.inRound l) (n - 1 - 1) P (Exit.then K (fun _ _ _ => False)) { tmps := (ps.zip (encs k)).foldl (fun t (p, v) => t.setIfInBounds p v) a.tmps, defers := [] } W)
    (hbody : ∀ (l k : Nat) (O : Nat → Prop) (a' : Act) (W1 W : World), k < N → Ax k O a' W1 → Kept (fun b => ¬ O b) W1 W → (∀ b, O b → NB W b) → I k O W → (∀ b, O b → w.heap.size ≤ b) →
      body.wpIn (F.inRound l) (n - 1 - 1) P (roundOwnS S I Ix k O W) a' W)
    (hdone : ∀ (D : Nat) (O : Nat → Prop) (W : World), w.heap.size ≤ D → O D → (∀ b, O b → w.heap.size ≤ b) → I N O W → W.heap[D]? = some (.deferred (some [])) → Q .normal { a with defers := { target := .collected D, args := #[] } :: a.defers } W)
    (hstop : ∀ (D : Nat) (c : Code) (k : Nat) (O : Nat → Prop) (W : World), w.heap.size ≤ D → O D → (∀ b, O b → w.heap.size ≤ b) → k < N → Ix c k O W → W.heap[D]? = some (.deferred (some [])) →
      c.wpIn F n P Q { a with defers := { target := .collected D, args := #[] } :: a.defers } W) :
    (Code.rangeFunc g ps assign body).wpIn F n P Q a w := by
  refine wpIn_rangeFunc ?_
  intro fn hfn
  rw [hro]
  obtain ⟨D, hD⟩ : ∃ D, w.heap.size = D := ⟨_, rfl⟩
  obtain ⟨rec, hrec⟩ : ∃ rec : LoopState → Option Code → Loop, rec = fun st pe => { state := st, pending := pe, fn, tmps := a.tmps, params := ps, assign, body, defers := D } := ⟨_, rfl⟩
  obtain ⟨W1, hW1⟩ : ∃ W1, (w.alloc (.deferred (some []))).alloc (.loop (rec .ready none)) = W1 := ⟨_, rfl⟩
  have hL1 : W1.heap[D + 1]? = some (.loop (rec .ready none)) := by
    rw [← hW1, ← hD]
    have := World.alloc_heap_new (w.alloc (.deferred (some []))) (.loop (rec .ready none))
    rwa [World.size_alloc] at this
  have hK1 : W1.heap[D]? = some (.deferred (some [])) := by
    rw [← hW1, ← hD]
    exact (Below.heap_alloc _ _ _ (by simp)).trans (World.alloc_heap_new w _)
  have hkw : Kept (fun b => ¬ False) w W1 := by
    rw [← hW1]
    exact (Kept.alloc _ _ _).trans (Kept.alloc _ _ _)
  have hI1 : I 0 (fun b => False ∨ b = D ∨ b = D + 1) W1 := hI _ _ _ _ _ h0 hkw (fun b x => .inr (by rcases x with x | x | x; exact x.elim; all_goals omega))
  have hb1 : Below w0.heap.size w0 W1 := by
    rw [← hW1]; exact hb0.trans ((((Below.refl _ w).alloc (Nat.le_refl _) _).alloc (by simp) _).mono hb0.size)
  refine ⟨D + 1, [{ target := .collected D, args := #[] }], W1, { target := .fn (.func gf) lb, args := #[.func (.yield (D + 1)) #[] #[]] }, W1, gf,
    #[.func (.yield (D + 1)) #[] #[]] ++ lb, W1, ?_, ?_, ?_, ?_, fun _ => h1, ?_⟩
  · rw [← hW1, hrec, ← hD]; exact run_enterLoop_outer _ _ _ _ _
  · simp only [resolve, hg]
    simp [go_sem]
  · intro f' hf'; simp [Target.leads] at hf'; subst hf'; exact hFg
  · simp [invoke, go_sem, eg]
  · refine (hseq (D + 1)
      (fun k O W => I k (fun b => O b ∨ b = D ∨ b = D + 1) W ∧ W.heap[D + 1]? = some (.loop (rec .ready none)) ∧ W.heap[D]? = some (.deferred (some [])) ∧ ∀ b, O b → D + 2 ≤ b)
      (fun k O W => ∃ c, Ix c k (fun b => O b ∨ b = D ∨ b = D + 1) W ∧ W.heap[D + 1]? = some (.loop (rec .done (some c))) ∧ W.heap[D]? = some (.deferred (some [])) ∧ ∀ b, O b → D + 2 ≤ b)
      W1 hb1 ?_ ?_ ?_ ⟨hI1, hL1, hK1, fun _ x => x.elim⟩).mono ?_
    · rintro k O O' A B ⟨hi, hl, hk, ho⟩ hK hn
      have hlt : D + 1 < A.heap.size := (Array.getElem?_eq_some_iff.1 hl).1
      refine ⟨hI _ _ _ _ _ hi (hK.mono (fun b _ x y => x (.inl y))) (fun b x => ?_), ?_, ?_, fun b x => ?_⟩
      · rcases x with x | x
        · exact (hn b x).imp_left .inl
        · exact .inl (.inr x)
      · exact (hK.block _ hlt (fun x => by have := ho _ x; omega)).trans hl
      · exact (hK.block _ (by omega) (fun x => by have := ho _ x; omega)).trans hk
      · rcases hn b x with x | x
        · exact ho b x
        · omega
    · rintro k O O' A B ⟨c, hi, hl, hk, ho⟩ hK hn
      have hlt : D + 1 < A.heap.size := (Array.getElem?_eq_some_iff.1 hl).1
      refine ⟨c, hIx c _ _ _ _ _ hi (hK.mono (fun b _ x y => x (.inl y))) (fun b x => ?_), ?_, ?_, fun b x => ?_⟩
      · rcases x with x | x
        · exact (hn b x).imp_left .inl
        · exact .inl (.inr x)
      · exact (hK.block _ hlt (fun x => by have := ho _ x; omega)).trans hl
      · exact (hK.block _ (by omega) (fun x => by have := ho _ x; omega)).trans hk
      · rcases hn b x with x | x
        · exact ho b x
        · omega
    · rintro k O W hlen hOb ⟨hi, hl, hk, ho⟩
      have hlt : D + 1 < W.heap.size := (Array.getElem?_eq_some_iff.1 hl).1
      have hOb' : ∀ b, (O b ∨ b = D ∨ b = D + 1) → NB W b := fun b z => by
        rcases z with z | z | z
        · exact hOb b z
        · exact ⟨_, z ▸ hk, fun c fz e => by cases e⟩
        · exact ⟨_, z ▸ hl, fun c fz e => by cases e⟩
      have hy := run_yield (P := P) (args := encs k) hl (by rw [hrec]; exact hps k)
      rw [hrec] at hy
      refine ⟨fn, _, assign, body, hy, roundIn_of_wpIn hfn (hassign _ k _ W _ hlen hOb' hi (fun a' W' hKW hi' hax => ?_))⟩
      have hl' : W'.heap[D + 1]? = some (.loop (rec .ready none)) := (hKW.block _ hlt trivial).trans hl
      have hk' : W'.heap[D]? = some (.deferred (some [])) := (hKW.block _ (by omega) trivial).trans hk
      have hlt' : D + 1 < W'.heap.size := (Array.getElem?_eq_some_iff.1 hl').1
      refine ⟨_, run_beginRound hl' (by rw [hrec]), ?_⟩
      obtain ⟨W2, hW2⟩ : ∃ W2, W'.putObj (D + 1) (.loop { rec .ready none with state := .busy }) = W2 := ⟨_, rfl⟩
      have hl2 : W2.heap[D + 1]? = some (.loop { rec .ready none with state := .busy }) := by rw [← hW2]; exact World.putObj_heap_same hlt'
      have hk2 : W2.heap[D]? = some (.deferred (some [])) := by rw [← hW2]; exact (World.putObj_heap_other (by omega)).trans hk'
      have hk12 : Kept (fun b => ¬ (O b ∨ b = D ∨ b = D + 1)) W' W2 := by rw [← hW2]; exact Kept.putObj _ _ _ _ (fun x => x (.inr (.inr rfl)))
      have hkO : Kept (fun b => O b ∨ S b) W W2 := by
        refine (hKW.mono (fun _ _ _ => trivial)).trans ?_
        rw [← hW2]
        refine Kept.putObj _ _ _ _ (fun x => ?_)
        rcases x with x | x
        · have := ho _ x; omega
        · have := hn0 _ x; omega
      have hi2 : I k (fun b => O b ∨ b = D ∨ b = D + 1) W2 := hI.same hi' hk12
      have hlow : ∀ b, (O b ∨ b = D ∨ b = D + 1) → w.heap.size ≤ b := fun b x => by
        rcases x with x | x
        · have := ho b x; omega
        · omega
      have hOb2 : ∀ b, (O b ∨ b = D ∨ b = D + 1) → NB W2 b := fun b z => by
        by_cases e : b = D + 1
        · exact ⟨_, e ▸ hl2, fun c fz e => by cases e⟩
        · have h1 := (hOb' b z).kept hKW trivial
          have h2 : Kept (fun b => b ≠ D + 1) W' W2 := by rw [← hW2]; exact Kept.putObj _ _ _ _ (fun x => x rfl)
          exact h1.kept h2 e
      rw [hW2]
      refine wpIn_mono (hbody _ k _ a' W' W2 hlen hax hk12 hOb2 hi2 hlow) ?_
      have fin : ∀ (jump : Option Code) (W3 : World), Kept (fun b => (O b ∨ b = D ∨ b = D + 1) ∨ S b) W2 W3 →
          ∃ W4, W4 = W3.putObj (D + 1) (.loop (rec (if jump.isNone then .ready else .done) jump)) ∧ (Instr.endRound (D + 1) jump).run P W3 = .ok (.bool jump.isNone) W4 ∧
          W4.heap[D + 1]? = some (.loop (rec (if jump.isNone then .ready else .done) jump)) ∧ W4.heap[D]? = some (.deferred (some [])) ∧
          Kept (fun b => O b ∨ S b) W W4 ∧ Kept (fun b => ¬ (O b ∨ b = D ∨ b = D + 1)) W3 W4 := fun jump W3 hk3 => by
        have hlt2 : D + 1 < W2.heap.size := (Array.getElem?_eq_some_iff.1 hl2).1
        have hl3 := (hk3.block (D + 1) hlt2 (.inl (.inr (.inr rfl)))).trans hl2
        have hkk3 := (hk3.block D (by omega) (.inl (.inr (.inl rfl)))).trans hk2
        have hlt3 : D + 1 < W3.heap.size := (Array.getElem?_eq_some_iff.1 hl3).1
        have hr := run_endRound (P := P) jump hl3
        refine ⟨_, rfl, ?_, World.putObj_heap_same hlt3, (World.putObj_heap_other (by omega)).trans hkk3, ?_, Kept.putObj _ _ _ _ (fun x => x (.inr (.inr rfl)))⟩
        · rw [hrec] at hr ⊢
          exact hr
        · refine (hkO.trans (hk3.mono (fun b _ x => ?_))).trans (Kept.putObj _ _ _ _ (fun x => ?_))
          · rcases x with x | x
            · exact .inl (.inl x)
            · exact .inr x
          · rcases x with x | x
            · have := ho _ x; omega
            · have := hn0 _ x; omega
      rintro e a3 W3 hp
      cases e with
      | normal =>
        obtain ⟨hk3, hi3⟩ := hp
        obtain ⟨W4, -, hr, hl4, hk4, hK4, hA4⟩ := fin none W3 hk3
        exact ⟨_, W4, hr, hK4, .inl ⟨rfl, hI.same hi3 hA4, hl4, hk4, ho⟩⟩
      | ret =>
        obtain ⟨hk3, hi3⟩ := hp
        obtain ⟨W4, -, hr, hl4, hk4, hK4, hA4⟩ := fin (some .ret) W3 hk3
        exact ⟨_, W4, hr, hK4, .inr ⟨rfl, .ret, (hIx _).same hi3 hA4, hl4, hk4, ho⟩⟩
      | exit id =>
        obtain ⟨hk3, hi3⟩ := hp
        obtain ⟨W4, -, hr, hl4, hk4, hK4, hA4⟩ := fin (some (.exit id)) W3 hk3
        exact ⟨_, W4, hr, hK4, .inr ⟨rfl, .exit id, (hIx _).same hi3 hA4, hl4, hk4, ho⟩⟩
      | goto t =>
        obtain ⟨hk3, hi3⟩ := hp
        obtain ⟨W4, -, hr, hl4, hk4, hK4, hA4⟩ := fin (some (.goto t)) W3 hk3
        exact ⟨_, W4, hr, hK4, .inr ⟨rfl, .goto t, (hIx _).same hi3 hA4, hl4, hk4, ho⟩⟩
      | panic ch => exact hp.elim
      | outgrown => exact hp.elim
    · have hlow : ∀ O : Nat → Prop, (∀ b, O b → D + 2 ≤ b) → ∀ b, (O b ∨ b = D ∨ b = D + 1) → w.heap.size ≤ b := fun O ho b x => by
        rcases x with x | x
        · have := ho b x; omega
        · omega
      rintro e W2 ⟨⟨v, rfl⟩, (⟨O, hi, hl, hk, ho⟩ | ⟨k, O, hk0, c, hi, hl, hk, ho⟩)⟩
      · exact ⟨none, _, by have := run_endLoop (P := P) hl (by rw [hrec]; simp); rw [hrec] at this; exact this,
          hdone D (fun b => O b ∨ b = D ∨ b = D + 1) _ (by omega) (.inr (.inl rfl)) (hlow O ho) (hI.same hi (Kept.putObj _ _ _ _ (fun x => x (.inr (.inr rfl))))) ((World.putObj_heap_other (by omega)).trans hk)⟩
      · exact ⟨some c, _, by have := run_endLoop (P := P) hl (by rw [hrec]; simp); rw [hrec] at this; exact this,
          hstop D c k (fun b => O b ∨ b = D ∨ b = D + 1) _ (by omega) (.inr (.inl rfl)) (hlow O ho) hk0 ((hIx c).same hi (Kept.putObj _ _ _ _ (fun x => x (.inr (.inr rfl))))) ((World.putObj_heap_other (by omega)).trans hk)⟩

end Go.Proofs.YtjfoagmenehapaaGreatDoor.Tree

