import Derived.Test.YtpcnmolncoaddaaTextZ
import Derived.Deep.RegionHeld3
import Derived.Deep.DeepCutAuto
import Derived.Laws.StructEq
namespace Go.Proofs.Ytpcnmolncoaddaa
open Go.RowKit Go.Joins

theorem smallZ {m : Bool} {v : Value} {n : Nat} {f : Nat → Nat} {w : World} {A : Int} (h : Num w m v n f A) :
    Calls Try.prog 30 #[.agg #[.bool m, v]] w fun e w' => e = .returned (.agg #[.bool (isSmall A), .int .i64 (if isSmall A = true then A else 0)]) ∧ Below w.heap.size w w' := by
  have := iSmall_any m v n f w h.lim
  rwa [smallOf_eq h] at this
theorem smallSZ {m : Bool} {v : Value} {n : Nat} {f : Nat → Nat} {w : World} {A : Int} (h : Num w m v n f A) :
    Calls Try.prog 31 #[.agg #[.bool m, v]] w fun e w' => e = .returned (.agg #[.bool (isSmall A), .int .i64 (if isSmall A = true then A else 0)]) ∧ Below w.heap.size w w' := by
  have := sSmall_any m v n f w h.lim
  rwa [smallOf_eq h] at this
theorem isSmall_in {A : Int} (h0 : -9223372036854775808 ≤ A) (h1 : A ≤ 9223372036854775807) : isSmall A = true := by unfold isSmall; simp [h0, h1]
theorem isSmall_of {A : Int} (h : isSmall A = true) : -9223372036854775808 ≤ A ∧ A ≤ 9223372036854775807 := by unfold isSmall at h; simpa using h
theorem lid_big : (10000000000 : Nat) < Lid := by unfold Lid; decide +kernel
theorem field28c (x : Int) (m : Bool) (a : Option Addr) (n c : Nat) (w : World) : Sem.run Try.prog (Instr.field 28 (.agg #[.int .i64 x, .bool m, .slice a n c]) 0) w = .ok (.int .i64 x) w := by kernel_rfl
theorem field44 (g : Bool) (x : Int) (w : World) : Sem.run Try.prog (Instr.field 44 (.agg #[.bool g, .int .i64 x]) 0) w = .ok (.bool g) w := by kernel_rfl

theorem Try.und44 : Try.prog.underlying 44 = some (.struct (Try.prog.fieldsOf 44)) := by kernel_rfl
theorem Try.stood44 : Try.prog.stoodInHeld 44 = false := by kernel_rfl
theorem Try.eqg44 : Try.prog.eqGuardType Try.prog.depth 44 = false := by kernel_rfl
theorem part44a (g : Bool) (x : Int) (w : World) : (part 4 #[.bool g, .int .i64 x] 0).run Try.prog w = .ok (.bool g) w := by kernel_rfl
theorem part44b (g : Bool) (x : Int) (w : World) : (part 2 #[.bool g, .int .i64 x] 1).run Try.prog w = .ok (.int .i64 x) w := by kernel_rfl
theorem eqFields44 (x y : Int) (w : World) : (Op.eqFields 9999 #[.bool true, .int .i64 x] #[.bool true, .int .i64 y] (Try.prog.fieldsOf 44).toList).run Try.prog w = .ok (x == y) w := by
  rw [Program.fieldsOf, Try.underlying44]
  simp only [Op.eqFields]
  simp [part44a, part44b, run_equalIn_bool' (P := Try.prog) w 9998 4 true true Try.underlying4, run_equalIn_int (P := Try.prog) w 9998 2 .i64 .i64 x y Try.underlying2]
  by_cases h : x = y <;> simp [h]
theorem eq44 (x y : Int) (w : World) : (binOp .eql 44 (.agg #[.bool true, .int .i64 x]) (.agg #[.bool true, .int .i64 y])).run Try.prog w = .ok (.bool (x == y)) w := by
  rw [run_eql_struct, run_equalIn_agg w 9999 44 _ _ Try.und44 Try.stood44, eqFields44]
  rfl
theorem eq44s (x : Int) (w : World) : (binOp .eql 44 (.agg #[.bool true, .int .i64 x]) (.agg #[.bool true, .int .i64 x])).run Try.prog w = .ok (.bool true) w := by
  rw [eq44, beq_self_eq_true]
theorem guard44 (op : BinOp) (a b : Operand) (xs ys : Array Value) (w : World) : (eqGuard op 44 a b (.agg xs) (.agg ys)).run Try.prog w = .ok () w := run_eqGuard_agg w op 44 a b xs ys Try.eqg44

theorem T13.of {W w' : World} {bs bp bq ba : Nat} {x0 x1 x2 y0 y1 y2 q0 q1 a0 a1 : Value} (xs : At3 W bs x0 x1 x2) (xp : At3 W bp y0 y1 y2) (xq : At2 W bq q0 q1) (xa : At2 W ba a0 a1) (hb : Below W.heap.size W w') :
    (w'.cell? ⟨bs, 1, none⟩ = some x1 ∧ w'.cell? ⟨bs, 2, none⟩ = some x2 ∧ w'.cell? ⟨bp, 1, none⟩ = some y1 ∧ w'.cell? ⟨bp, 2, none⟩ = some y2 ∧ w'.cell? ⟨bq, 0, none⟩ = some q0 ∧ w'.cell? ⟨bq, 1, none⟩ = some q1 ∧ w'.cell? ⟨ba, 0, none⟩ = some a0 ∧ w'.cell? ⟨ba, 1, none⟩ = some a1) ∧ Below W.heap.size W w' :=
  have a := xs.next hb
  have b := xp.next hb
  have c := xq.next hb
  have d := xa.next hb
  ⟨⟨a.c1, a.c2, b.c1, b.c2, c.c0, c.c1, d.c0, d.c1⟩, hb⟩

theorem mul_small (X Y : Int) (h0 : -50000 ≤ X) (h1 : X < 50000) (h2 : -50000 ≤ Y) (h3 : Y < 50000) : (X * Y).natAbs ≤ 2500000000 := by
  rw [Int.natAbs_mul]
  have a : X.natAbs ≤ 50000 := by omega
  have b : Y.natAbs ≤ 50000 := by omega
  exact Nat.le_trans (Nat.mul_le_mul a b) (by decide)

theorem app0 (L : List UInt8) : ((⟨#[48]⟩ : ByteArray) ++ ⟨L.toArray⟩) = ⟨(48 :: L).toArray⟩ := by
  apply ByteArray.ext
  simp [ByteArray.data_append]
theorem app32 (L : List UInt8) : ((⟨L.toArray⟩ : ByteArray) ++ ⟨#[32]⟩) = ⟨(L ++ [32]).toArray⟩ := by
  apply ByteArray.ext
  simp [ByteArray.data_append]

set_option maxHeartbeats 4000000 in
set_option maxRecDepth 100000 in
theorem lawBText (v : Value) (k : Nat) (w : World) (hB : Byt w v k) (hk2 : k ≤ 9223372036854775807) :
    Calls Try.prog 5 #[v] w fun e w' => e = .returned (.bool true) ∧ Below w.heap.size w w' := by
  obtain ⟨av, cv, rfl, -⟩ := id hB
  by_cases hbig : 1048576 < k
  · go_enter Try.func5, Try.ntmps5
    go_wp2_with fail
    go_ret
    exact ⟨rfl, Below.refl _ _⟩
  have hfc := field28c
  go_enter Try.func5, Try.ntmps5
  go_wp2_with fail
  refine (lwBig_any _ k 0 w hB (by omega) (by omega)).mono ?_
  rintro e w1 ⟨ma, va, na, fa, A, rfl, oa, NA, hb1⟩
  obtain ⟨aa, ca, rfl⟩ := NA.slice
  have xa := At2.start w1 (.bool ma) (.slice aa na ca) 25
  have hc1 := below_alloc1 w1 (.cells #[.bool ma, .slice aa na ca] 25)
  replace NA := NA.below hc1
  have hw1 := hb1.trans (hc1.mono hb1.size)
  clear oa hb1 hc1
  obtain ⟨a0, a1, alt⟩ := id xa
  go_wp2_with fail
  refine (iText_any ma _ na fa _ NA.lim).mono ?_
  rintro e w2 ⟨rfl, hb2⟩
  have NA0 := NA
  replace NA := NA.below hb2
  replace xa := xa.next hb2
  have hw2 := hw1.trans (hb2.mono hw1.size)
  have htl := text_len NA
  have HR := hide (readZ NA)
  have HB0 := hide (fun w => bad0 (textOf ma na fa) w htl.1 (by omega))
  have HB1 := hide (fun w => bad32 (textOf ma na fa) w htl.1 (by omega))
  generalize textOf ma na fa = L at *
  clear hw1 hb2 a0 a1 alt NA0
  go_wp2_with fail
  refine (HR.out _).mono ?_
  rintro e w3 ⟨h3, hb3⟩
  obtain ⟨mr, vr, nr, fr, rfl, or, NR⟩ := h3.1 NA.lid
  obtain ⟨ar, cr, rfl⟩ := NR.slice
  have xr := At3.start w3 (.int .i64 0) (.bool mr) (.slice ar nr cr) 28
  have hc3 := below_alloc1 w3 (.cells #[.int .i64 0, .bool mr, .slice ar nr cr] 28)
  have hd3 := hb3.trans (hc3.mono hb3.size)
  replace NR := NR.below hc3
  replace NA := NA.below hd3
  replace xa := xa.next hd3
  have hw3 := hw2.trans (hd3.mono hw2.size)
  clear h3 or hb3 hc3 hd3 hw2 HR
  obtain ⟨a0, a1, alt⟩ := id xa
  obtain ⟨r0, r1, r2, rlt⟩ := id xr
  go_wp2_with fail
  refine (sameBig_any NR NA).mono ?_
  rintro e w4 ⟨rfl, hb4⟩
  rw [decide_eq_true (p := A = A) rfl]
  go_wp2_with fail
  refine (HB0.out _ _ (app0 L)).mono ?_
  rintro e w5 ⟨rfl, hb5⟩
  go_wp2_with fail
  refine (HB1.out _ _ (app32 L)).mono ?_
  rintro e w6 ⟨rfl, hb6⟩
  have hd6 := (hb4.trans (hb5.mono hb4.size)).trans (hb6.mono (by have := hb4.size; have := hb5.size; omega))
  replace NA := NA.below hd6
  replace xa := xa.next hd6
  have hw6 := hw3.trans (hd6.mono hw3.size)
  have hB6 := hB.below hw6
  clear HB0 HB1 NR xr hb4 hb5 hb6 hd6 hw3 a0 a1 alt r0 r1 r2 rlt hB htl
  go_wp2_with fail
  refine (lwAt_any _ k 6 100000 _ hB6 (by omega) (by omega) (by omega) (by omega)).mono ?_
  rintro e w7 ⟨r7, hr7, rfl, q7, rfl⟩
  have hb7 := below_drewN w6 q7
  replace NA := NA.below hb7
  replace xa := xa.next hb7
  have hw7 := hw6.trans (hb7.mono hw6.size)
  have hB7 := hB6.below hb7
  clear hB6 hw6 hb7
  generalize w6.drewN q7 = w7 at *
  go_wp2_with fail
  refine (lwAt_any _ k 8 100000 _ hB7 (by omega) (by omega) (by omega) (by omega)).mono ?_
  rintro e w8 ⟨r8, hr8, rfl, q8, rfl⟩
  have hb8 := below_drewN w7 q8
  replace NA := NA.below hb8
  replace xa := xa.next hb8
  have hw8 := hw7.trans (hb8.mono hw7.size)
  clear hB7 hw7 hb8
  generalize w7.drewN q8 = w8 at *
  go_wp2_with fail
  have X0 : -50000 ≤ (r7 : Int) - 50000 := by omega
  have X1 : (r7 : Int) - 50000 < 50000 := by omega
  have Y0 : -50000 ≤ (r8 : Int) - 50000 := by omega
  have Y1 : (r8 : Int) - 50000 < 50000 := by omega
  generalize (r7 : Int) - 50000 = X at *
  generalize (r8 : Int) - 50000 = Y at *
  have hL := lid_big
  have HXY := hide (mul_small X Y X0 X1 Y0 Y1)
  have HXL := hide (show (X * Y).natAbs < Lid by have := HXY.out; omega)
  clear hr7 hr8 hfc
  refine (ofZ X _ (by omega) (by omega)).mono ?_
  rintro e w9 ⟨m9, a9, n9, c9, f9, rfl, N9, hb9⟩
  have hw9 := hw8.trans (hb9.mono hw8.size)
  replace NA := NA.below hb9
  replace xa := xa.next hb9
  clear hw8 hb9
  go_wp2_with fail
  refine (ofZ Y _ (by omega) (by omega)).mono ?_
  rintro e w10 ⟨m10, a10, n10, c10, f10, rfl, N10, hb10⟩
  have hw10 := hw9.trans (hb10.mono hw9.size)
  replace NA := NA.below hb10
  replace xa := xa.next hb10
  replace N9 := N9.below hb10
  clear hw9 hb10
  go_wp2_with fail
  refine (iAddZ N9 N10).mono ?_
  rintro e w11 ⟨h11, hb11⟩
  obtain ⟨ms, vs, ns, fs, rfl, os, NS⟩ := h11.1 (by omega)
  obtain ⟨as', cs', rfl⟩ := NS.slice
  have xs := At3.start w11 (.int .i64 0) (.bool ms) (.slice as' ns cs') 28
  have hc11 := below_alloc1 w11 (.cells #[.int .i64 0, .bool ms, .slice as' ns cs'] 28)
  have hd11 := hb11.trans (hc11.mono hb11.size)
  replace NS := NS.below hc11
  replace NA := NA.below hd11
  replace xa := xa.next hd11
  have hw11 := hw10.trans (hd11.mono hw10.size)
  clear h11 os hb11 hc11 hd11 hw10 N9 N10
  go_wp2_with fail
  refine (ofZ X _ (by omega) (by omega)).mono ?_
  rintro e w12 ⟨m12, a12, n12, c12, f12, rfl, N12, hb12⟩
  have hw12 := hw11.trans (hb12.mono hw11.size)
  replace NA := NA.below hb12
  replace NS := NS.below hb12
  replace xa := xa.next hb12
  replace xs := xs.next hb12
  clear hw11 hb12
  go_wp2_with fail
  refine (ofZ Y _ (by omega) (by omega)).mono ?_
  rintro e w13 ⟨m13, a13, n13, c13, f13, rfl, N13, hb13⟩
  have hw13 := hw12.trans (hb13.mono hw12.size)
  replace NA := NA.below hb13
  replace NS := NS.below hb13
  replace xa := xa.next hb13
  replace xs := xs.next hb13
  replace N12 := N12.below hb13
  clear hw12 hb13
  go_wp2_with fail
  refine (iMulZ N12 N13).mono ?_
  rintro e w14 ⟨h14, hb14⟩
  obtain ⟨mp, vp, np, fp, rfl, op, NP⟩ := h14.1 HXL.out
  obtain ⟨ap, cp, rfl⟩ := NP.slice
  have xp := At3.start w14 (.int .i64 0) (.bool mp) (.slice ap np cp) 28
  have hc14 := below_alloc1 w14 (.cells #[.int .i64 0, .bool mp, .slice ap np cp] 28)
  have hd14 := hb14.trans (hc14.mono hb14.size)
  replace NP := NP.below hc14
  replace NA := NA.below hd14
  replace NS := NS.below hd14
  replace xa := xa.next hd14
  replace xs := xs.next hd14
  have hw14 := hw13.trans (hd14.mono hw13.size)
  clear h14 op hb14 hc14 hd14 hw13 N12 N13
  obtain ⟨a0, a1, alt⟩ := id xa
  go_wp2_with fail
  refine (smallZ NA).mono ?_
  rintro e w15 ⟨rfl, hb15⟩
  have hc15 := below_alloc1 w15 (.cells #[.bool (isSmall A), .int .i64 (if isSmall A = true then A else 0)] 44)
  have xq := At2.start w15 (.bool (isSmall A)) (.int .i64 (if isSmall A = true then A else 0)) 44
  have hd15 := hb15.trans (hc15.mono hb15.size)
  replace NP := NP.below hd15
  replace NA := NA.below hd15
  replace NS := NS.below hd15
  replace xa := xa.next hd15
  replace xs := xs.next hd15
  replace xp := xp.next hd15
  have hw15 := hw14.trans (hd15.mono hw14.size)
  clear hb15 hc15 hd15 hw14 a0 a1 alt
  have s1 : isSmall (X + Y) = true := isSmall_in (by omega) (by omega)
  have s2 : isSmall (X * Y) = true := isSmall_in (by have := HXY.out; omega) (by have := HXY.out; omega)
  generalize hg : isSmall A = g at *
  generalize hq : (if g = true then A else 0) = q at *
  have HQ := hide hq
  have HG := hide hg
  clear hq hg
  go_upto_region 13 with fail
  generalize w15.alloc (.cells #[.bool g, .int .i64 q] 44) = W at *
  generalize w15.heap.size = bq at *
  generalize w14.heap.size = bp at *
  generalize w11.heap.size = bs at *
  generalize w1.heap.size = ba at *
  have hwp : IntKind.i64.wrap (X * Y) = X * Y := by
    have h := HXY.out
    rw [IntKind.wrap_i64]
    generalize X * Y = P at *
    omega
  have hwq : IntKind.i64.wrap (X + Y) = X + Y := by
    rw [IntKind.wrap_i64]
    omega
  have hf44 := field44
  have he44 := eq44s
  have hg44 := guard44
  cases g with
  | true =>
    have hA := isSmall_of HG.out
    obtain rfl : A = q := HQ.out
    go_region_held3 (fun w' => (w'.cell? ⟨bs, 1, none⟩ = some (.bool ms) ∧ w'.cell? ⟨bs, 2, none⟩ = some (.slice as' ns cs') ∧ w'.cell? ⟨bp, 1, none⟩ = some (.bool mp) ∧ w'.cell? ⟨bp, 2, none⟩ = some (.slice ap np cp) ∧ w'.cell? ⟨bq, 0, none⟩ = some (.bool true) ∧ w'.cell? ⟨bq, 1, none⟩ = some (.int .i64 A) ∧ w'.cell? ⟨ba, 0, none⟩ = some (.bool ma) ∧ w'.cell? ⟨ba, 1, none⟩ = some (.slice aa na ca)) ∧ Below W.heap.size W w') (first | exact T13.of xs xp xq xa (below_drew0 _) | exact T13.of xs xp xq xa e1 | exact T13.of xs xp xq xa e2 | exact T13.of xs xp xq xa e3 | exact T13.of xs xp xq xa e4 | exact T13.of xs xp xq xa e5) (first
        | (go_at_call_of 30 (Value.agg #[Value.bool ms, Value.slice as' ns cs']); refine (smallZ (NS.below (below_drew0 _))).mono ?_; rintro e w16 ⟨rfl, hb16⟩; rw [s1, if_pos rfl]; have e1 := (below_drew0 W).trans hb16)
        | (go_at_call_of 30 (Value.agg #[Value.bool mp, Value.slice ap np cp]); refine (smallZ (NP.below e1)).mono ?_; rintro e w17 ⟨rfl, hb17⟩; rw [s2, if_pos rfl]; have e2 := e1.trans (hb17.mono e1.size))
        | (go_at_call 29; refine (ofZ A _ hA.1 hA.2).mono ?_; rintro e w18 ⟨m18, a18, n18, c18, f18, rfl, N18, hb18⟩; have e3 := e2.trans (hb18.mono e2.size))
        | (go_at_call 20; refine (sameBig_any N18 (NA.below e3)).mono ?_; rintro e w19 ⟨rfl, hb19⟩; rw [decide_eq_true (p := A = A) rfl]; have e4 := e3.trans (hb19.mono e3.size))
        | (go_at_call 31; refine (smallSZ (NA.below (by first | exact e4 | exact e2))).mono ?_; rintro e w20 ⟨rfl, hb20⟩; rw [HG.out]; have e5 := Below.trans (by first | exact e4 | exact e2) (hb20.mono (Below.size (by first | exact e4 | exact e2)))))
    all_goals
      go_wp2_with fail
      go_ret
      exact ⟨rfl, hw15.trans (e5.mono hw15.size)⟩
  | false =>
    refine wp_region_held_drew (S := (fun w' => (w'.cell? ⟨bs, 1, none⟩ = some (.bool ms) ∧ w'.cell? ⟨bs, 2, none⟩ = some (.slice as' ns cs') ∧ w'.cell? ⟨bp, 1, none⟩ = some (.bool mp) ∧ w'.cell? ⟨bp, 2, none⟩ = some (.slice ap np cp) ∧ w'.cell? ⟨bq, 0, none⟩ = some (.bool false) ∧ w'.cell? ⟨bq, 1, none⟩ = some (.int .i64 q) ∧ w'.cell? ⟨ba, 0, none⟩ = some (.bool ma) ∧ w'.cell? ⟨ba, 1, none⟩ = some (.slice aa na ca)) ∧ Below W.heap.size W w')) (by kernel_rfl) (T13.of xs xp xq xa (below_drew0 _)) (fun hHeld => ?_)
    refine' wpAnyH_take (i := 0) (oi := { dst := some 66, op := Go.Op.fieldAddr 28 (Go.Operand.tmp 8) 1, type := 0, pos := "laws.go:118", after := #[], guard := none }) (v := _) rfl (by kernel_rfl) (by kernel_rfl) (by kernel_rfl) (fun _ _ _ h => h) (Or.inl ⟨by rfl, ?hy0⟩) (by assumption) ?rest0
    case hy0 => (intro w hSw; (try dsimp only at hSw); go_simp; (try with_reducible rfl))
    try simp only [Act.put, List.setIfInBounds_toArray, List.set_cons_succ]
    refine' wpAnyH_take (i := 1) (oi := { dst := some 67, op := Go.Op.load 25 (Go.Operand.tmp 66), type := 25, pos := "laws.go:118", after := #[{ on := 0, ground := Go.Ground.data }], guard := none }) (v := _) rfl (by kernel_rfl) (by kernel_rfl) (by kernel_rfl) (fun _ _ _ h => h) (Or.inl ⟨by rfl, ?hy1⟩) (by assumption) ?rest1
    case hy1 => (intro w hSw; (try dsimp only at hSw); go_simp; (try with_reducible rfl))
    try simp only [Act.put, List.setIfInBounds_toArray, List.set_cons_succ]
    refine' wpAnyH_take (i := 3) (oi := { dst := some 69, op := Go.Op.move (Go.Operand.tmp 6), type := 2, pos := "laws.go:118", after := #[], guard := none }) (v := _) rfl (by kernel_rfl) (by kernel_rfl) (by kernel_rfl) (fun _ _ _ h => h) (Or.inl ⟨by rfl, ?hy3⟩) (by assumption) ?rest3
    case hy3 => (intro w hSw; (try dsimp only at hSw); go_simp; (try with_reducible rfl))
    try simp only [Act.put, List.setIfInBounds_toArray, List.set_cons_succ]
    refine' wpAnyH_take (i := 4) (oi := { dst := some 70, op := Go.Op.move (Go.Operand.tmp 7), type := 2, pos := "laws.go:118", after := #[], guard := none }) (v := _) rfl (by kernel_rfl) (by kernel_rfl) (by kernel_rfl) (fun _ _ _ h => h) (Or.inl ⟨by rfl, ?hy4⟩) (by assumption) ?rest4
    case hy4 => (intro w hSw; (try dsimp only at hSw); go_simp; (try with_reducible rfl))
    try simp only [Act.put, List.setIfInBounds_toArray, List.set_cons_succ]
    refine' wpAnyH_take (i := 5) (oi := { dst := some 71, op := Go.Op.binOp Go.BinOp.add 2 (Go.Operand.tmp 69) (Go.Operand.tmp 70) 2, type := 2, pos := "laws.go:118", after := #[{ on := 3, ground := Go.Ground.data }, { on := 4, ground := Go.Ground.data }], guard := none }) (v := _) rfl (by kernel_rfl) (by kernel_rfl) (by kernel_rfl) (fun _ _ _ h => h) (Or.inl ⟨by rfl, ?hy5⟩) (by assumption) ?rest5
    case hy5 => (intro w hSw; (try dsimp only at hSw); go_simp; (try with_reducible rfl))
    try simp only [Act.put, List.setIfInBounds_toArray, List.set_cons_succ]
    refine' wpAnyH_take (i := 6) (oi := { dst := some 72, op := Go.Op.build 44 #[(0, Go.Operand.const (Go.Value.bool true)), (1, Go.Operand.tmp 71)], type := 44, pos := "laws.go:118", after := #[{ on := 5, ground := Go.Ground.data }], guard := none }) (v := _) rfl (by kernel_rfl) (by kernel_rfl) (by kernel_rfl) (fun _ _ _ h => h) (Or.inl ⟨by rfl, ?hy6⟩) (by assumption) ?rest6
    case hy6 => (intro w hSw; (try dsimp only at hSw); go_simp; (try with_reducible rfl))
    try simp only [Act.put, List.setIfInBounds_toArray, List.set_cons_succ]
    refine wpAnyH_ready (rs := [2]) (by kernel_rfl) (by simp) ?_
    refine AllReadyH.cons (o := { dst := some 68, op := Go.Op.call { callee := Go.Callee.value (Go.Operand.func 30), args := #[Go.Operand.tmp 67], argTypes := #[25] }, type := 44, pos := "laws.go:118", after := #[{ on := 1, ground := Go.Ground.data }], guard := none }) rfl (fun K hK => ?_) AllReadyH.nil
    go_simp
    refine (smallZ (NS.below (below_drew0 _))).mono ?_
    rintro e w16 ⟨rfl, hb16⟩
    rw [s1, if_pos rfl]
    have e1 := (below_drew0 W).trans hb16
    go_wp2_with fail
    refine hK.out _ _ (T13.of xs xp xq xa e1) (fun hHeld => ?_)
    clear hK K
    try simp only [Act.put, List.setIfInBounds_toArray, List.set_cons_succ]
    refine' wpAnyH_take (i := 7) (oi := { dst := some 73, op := Go.Op.binOp Go.BinOp.eql 44 (Go.Operand.tmp 68) (Go.Operand.tmp 72) 44, type := 4, pos := "laws.go:118", after := #[{ on := 2, ground := Go.Ground.data }, { on := 6, ground := Go.Ground.data }], guard := none }) (v := _) rfl (by kernel_rfl) (by kernel_rfl) (by kernel_rfl) (fun _ _ _ h => h) (Or.inl ⟨by rfl, ?hy7⟩) (by assumption) ?rest7
    case hy7 => (intro w hSw; (try dsimp only at hSw); go_simp; (try with_reducible rfl))
    try simp only [Act.put, List.setIfInBounds_toArray, List.set_cons_succ]
    refine' wpAnyH_take (i := 8) (oi := { dst := some 74, op := Go.Op.move (Go.Operand.tmp 73), type := 4, pos := "laws.go:118", after := #[{ on := 7, ground := Go.Ground.data }, { on := 2, ground := Go.Ground.chain }], guard := none }) (v := _) rfl (by kernel_rfl) (by kernel_rfl) (by kernel_rfl) (fun _ _ _ h => h) (Or.inl ⟨by rfl, ?hy8⟩) (by assumption) ?rest8
    case hy8 => (intro w hSw; (try dsimp only at hSw); go_simp; (try with_reducible rfl))
    try simp only [Act.put, List.setIfInBounds_toArray, List.set_cons_succ]
    refine' wpAnyH_take (i := 9) (oi := { dst := some 75, op := Go.Op.fieldAddr 28 (Go.Operand.tmp 9) 1, type := 0, pos := "laws.go:118", after := #[{ on := 8, ground := Go.Ground.guard }], guard := some (8, true) }) (v := _) rfl (by kernel_rfl) (by kernel_rfl) (by kernel_rfl) (fun _ _ _ h => h) (Or.inl ⟨by rfl, ?hy9⟩) (by assumption) ?rest9
    case hy9 => (intro w hSw; (try dsimp only at hSw); go_simp; (try with_reducible rfl))
    try simp only [Act.put, List.setIfInBounds_toArray, List.set_cons_succ]
    refine' wpAnyH_take (i := 10) (oi := { dst := some 76, op := Go.Op.load 25 (Go.Operand.tmp 75), type := 25, pos := "laws.go:118", after := #[{ on := 9, ground := Go.Ground.data }, { on := 8, ground := Go.Ground.guard }], guard := some (8, true) }) (v := _) rfl (by kernel_rfl) (by kernel_rfl) (by kernel_rfl) (fun _ _ _ h => h) (Or.inl ⟨by rfl, ?hy10⟩) (by assumption) ?rest10
    case hy10 => (intro w hSw; (try dsimp only at hSw); go_simp; (try with_reducible rfl))
    try simp only [Act.put, List.setIfInBounds_toArray, List.set_cons_succ]
    refine' wpAnyH_take (i := 12) (oi := { dst := some 78, op := Go.Op.move (Go.Operand.tmp 6), type := 2, pos := "laws.go:118", after := #[{ on := 8, ground := Go.Ground.guard }], guard := some (8, true) }) (v := _) rfl (by kernel_rfl) (by kernel_rfl) (by kernel_rfl) (fun _ _ _ h => h) (Or.inl ⟨by rfl, ?hy12⟩) (by assumption) ?rest12
    case hy12 => (intro w hSw; (try dsimp only at hSw); go_simp; (try with_reducible rfl))
    try simp only [Act.put, List.setIfInBounds_toArray, List.set_cons_succ]
    refine' wpAnyH_take (i := 13) (oi := { dst := some 79, op := Go.Op.move (Go.Operand.tmp 7), type := 2, pos := "laws.go:118", after := #[{ on := 8, ground := Go.Ground.guard }], guard := some (8, true) }) (v := _) rfl (by kernel_rfl) (by kernel_rfl) (by kernel_rfl) (fun _ _ _ h => h) (Or.inl ⟨by rfl, ?hy13⟩) (by assumption) ?rest13
    case hy13 => (intro w hSw; (try dsimp only at hSw); go_simp; (try with_reducible rfl))
    try simp only [Act.put, List.setIfInBounds_toArray, List.set_cons_succ]
    refine' wpAnyH_take (i := 14) (oi := { dst := some 80, op := Go.Op.binOp Go.BinOp.mul 2 (Go.Operand.tmp 78) (Go.Operand.tmp 79) 2, type := 2, pos := "laws.go:118", after := #[{ on := 12, ground := Go.Ground.data }, { on := 13, ground := Go.Ground.data }, { on := 8, ground := Go.Ground.guard }], guard := some (8, true) }) (v := _) rfl (by kernel_rfl) (by kernel_rfl) (by kernel_rfl) (fun _ _ _ h => h) (Or.inl ⟨by rfl, ?hy14⟩) (by assumption) ?rest14
    case hy14 => (intro w hSw; (try dsimp only at hSw); go_simp; (try with_reducible rfl))
    try simp only [Act.put, List.setIfInBounds_toArray, List.set_cons_succ]
    refine' wpAnyH_take (i := 15) (oi := { dst := some 81, op := Go.Op.build 44 #[(0, Go.Operand.const (Go.Value.bool true)), (1, Go.Operand.tmp 80)], type := 44, pos := "laws.go:118", after := #[{ on := 14, ground := Go.Ground.data }, { on := 8, ground := Go.Ground.guard }], guard := some (8, true) }) (v := _) rfl (by kernel_rfl) (by kernel_rfl) (by kernel_rfl) (fun _ _ _ h => h) (Or.inl ⟨by rfl, ?hy15⟩) (by assumption) ?rest15
    case hy15 => (intro w hSw; (try dsimp only at hSw); go_simp; (try with_reducible rfl))
    try simp only [Act.put, List.setIfInBounds_toArray, List.set_cons_succ]
    refine wpAnyH_ready (rs := [11]) (by kernel_rfl) (by simp) ?_
    refine AllReadyH.cons (o := { dst := some 77, op := Go.Op.call { callee := Go.Callee.value (Go.Operand.func 30), args := #[Go.Operand.tmp 76], argTypes := #[25] }, type := 44, pos := "laws.go:118", after := #[{ on := 10, ground := Go.Ground.data }, { on := 8, ground := Go.Ground.chain }, { on := 8, ground := Go.Ground.guard }], guard := some (8, true) }) rfl (fun K hK => ?_) AllReadyH.nil
    go_simp
    refine (smallZ (NP.below e1)).mono ?_
    rintro e w17 ⟨rfl, hb17⟩
    rw [s2, if_pos rfl]
    have e2 := e1.trans (hb17.mono e1.size)
    go_wp2_with fail
    refine hK.out _ _ (T13.of xs xp xq xa e2) (fun hHeld => ?_)
    clear hK K
    try simp only [Act.put, List.setIfInBounds_toArray, List.set_cons_succ]
    refine' wpAnyH_take (i := 16) (oi := { dst := some 82, op := Go.Op.binOp Go.BinOp.eql 44 (Go.Operand.tmp 77) (Go.Operand.tmp 81) 44, type := 4, pos := "laws.go:118", after := #[{ on := 11, ground := Go.Ground.data }, { on := 15, ground := Go.Ground.data }, { on := 8, ground := Go.Ground.guard }], guard := some (8, true) }) (v := _) rfl (by kernel_rfl) (by kernel_rfl) (by kernel_rfl) (fun _ _ _ h => h) (Or.inl ⟨by rfl, ?hy16⟩) (by assumption) ?rest16
    case hy16 => (intro w hSw; (try dsimp only at hSw); go_simp; (try with_reducible rfl))
    try simp only [Act.put, List.setIfInBounds_toArray, List.set_cons_succ]
    refine' wpAnyH_take (i := 17) (oi := { dst := some 83, op := Go.Op.pick (Go.Operand.tmp 74) (Go.Operand.tmp 82) (Go.Operand.const (Go.Value.bool false)), type := 4, pos := "laws.go:118", after := #[{ on := 8, ground := Go.Ground.data }, { on := 16, ground := Go.Ground.data }], guard := none }) (v := _) rfl (by kernel_rfl) (by kernel_rfl) (by kernel_rfl) (fun _ _ _ h => h) (Or.inl ⟨by rfl, ?hy17⟩) (by assumption) ?rest17
    case hy17 => (intro w hSw; (try dsimp only at hSw); go_simp; (try with_reducible rfl))
    try simp only [Act.put, List.setIfInBounds_toArray, List.set_cons_succ]
    refine' wpAnyH_take (i := 18) (oi := { dst := some 84, op := Go.Op.move (Go.Operand.tmp 83), type := 4, pos := "laws.go:118", after := #[{ on := 17, ground := Go.Ground.data }, { on := 11, ground := Go.Ground.chain }], guard := none }) (v := _) rfl (by kernel_rfl) (by kernel_rfl) (by kernel_rfl) (fun _ _ _ h => h) (Or.inl ⟨by rfl, ?hy18⟩) (by assumption) ?rest18
    case hy18 => (intro w hSw; (try dsimp only at hSw); go_simp; (try with_reducible rfl))
    try simp only [Act.put, List.setIfInBounds_toArray, List.set_cons_succ]
    refine' wpAnyH_take (i := 19) (oi := { dst := some 85, op := Go.Op.fieldAddr 44 (Go.Operand.tmp 10) 0, type := 0, pos := "laws.go:118", after := #[{ on := 18, ground := Go.Ground.guard }], guard := some (18, true) }) (v := _) rfl (by kernel_rfl) (by kernel_rfl) (by kernel_rfl) (fun _ _ _ h => h) (Or.inl ⟨by rfl, ?hy19⟩) (by assumption) ?rest19
    case hy19 => (intro w hSw; (try dsimp only at hSw); go_simp; (try with_reducible rfl))
    try simp only [Act.put, List.setIfInBounds_toArray, List.set_cons_succ]
    refine' wpAnyH_take (i := 20) (oi := { dst := some 86, op := Go.Op.load 4 (Go.Operand.tmp 85), type := 4, pos := "laws.go:118", after := #[{ on := 19, ground := Go.Ground.data }, { on := 18, ground := Go.Ground.guard }], guard := some (18, true) }) (v := _) rfl (by kernel_rfl) (by kernel_rfl) (by kernel_rfl) (fun _ _ _ h => h) (Or.inl ⟨by rfl, ?hy20⟩) (by assumption) ?rest20
    case hy20 => (intro w hSw; (try dsimp only at hSw); go_simp; (try with_reducible rfl))
    try simp only [Act.put, List.setIfInBounds_toArray, List.set_cons_succ]
    refine' wpAnyH_take (i := 21) (oi := { dst := some 87, op := Go.Op.unOp Go.UnOp.not 4 (Go.Operand.tmp 86), type := 4, pos := "laws.go:118", after := #[{ on := 20, ground := Go.Ground.data }, { on := 18, ground := Go.Ground.guard }], guard := some (18, true) }) (v := _) rfl (by kernel_rfl) (by kernel_rfl) (by kernel_rfl) (fun _ _ _ h => h) (Or.inl ⟨by rfl, ?hy21⟩) (by assumption) ?rest21
    case hy21 => (intro w hSw; (try dsimp only at hSw); go_simp; (try with_reducible rfl))
    try simp only [Act.put, List.setIfInBounds_toArray, List.set_cons_succ]
    refine' wpAnyH_take (i := 22) (oi := { dst := some 88, op := Go.Op.move (Go.Operand.tmp 87), type := 4, pos := "laws.go:118", after := #[{ on := 21, ground := Go.Ground.data }, { on := 18, ground := Go.Ground.chain }, { on := 18, ground := Go.Ground.guard }], guard := some (18, true) }) (v := _) rfl (by kernel_rfl) (by kernel_rfl) (by kernel_rfl) (fun _ _ _ h => h) (Or.inl ⟨by rfl, ?hy22⟩) (by assumption) ?rest22
    case hy22 => (intro w hSw; (try dsimp only at hSw); go_simp; (try with_reducible rfl))
    try simp only [Act.put, List.setIfInBounds_toArray, List.set_cons_succ]
    refine wpAnyH_take (i := 23) (oi := { dst := some 89, op := Go.Op.fieldAddr 44 (Go.Operand.tmp 10) 1, type := 0, pos := "laws.go:118", after := #[{ on := 22, ground := Go.Ground.guard }], guard := some (22, false) }) (v := undef) rfl (by kernel_rfl) (by kernel_rfl) (by kernel_rfl) (fun _ _ _ h => h) (Or.inr ⟨by rfl, rfl⟩) (by assumption) ?rest23
    try simp only [Act.put, List.setIfInBounds_toArray, List.set_cons_succ]
    refine wpAnyH_take (i := 24) (oi := { dst := some 90, op := Go.Op.load 2 (Go.Operand.tmp 89), type := 2, pos := "laws.go:118", after := #[{ on := 23, ground := Go.Ground.data }, { on := 22, ground := Go.Ground.guard }], guard := some (22, false) }) (v := undef) rfl (by kernel_rfl) (by kernel_rfl) (by kernel_rfl) (fun _ _ _ h => h) (Or.inr ⟨by rfl, rfl⟩) (by assumption) ?rest24
    try simp only [Act.put, List.setIfInBounds_toArray, List.set_cons_succ]
    refine wpAnyH_take (i := 26) (oi := { dst := some 92, op := Go.Op.load 25 (Go.Operand.tmp 3), type := 25, pos := "laws.go:118", after := #[{ on := 22, ground := Go.Ground.guard }], guard := some (22, false) }) (v := undef) rfl (by kernel_rfl) (by kernel_rfl) (by kernel_rfl) (fun _ _ _ h => h) (Or.inr ⟨by rfl, rfl⟩) (by assumption) ?rest26
    try simp only [Act.put, List.setIfInBounds_toArray, List.set_cons_succ]
    refine wpAnyH_ready (rs := [25]) (by kernel_rfl) (by simp) ?_
    refine AllReadyH.cons (o := { dst := some 91, op := Go.Op.call { callee := Go.Callee.value (Go.Operand.func 29), args := #[Go.Operand.tmp 90], argTypes := #[2] }, type := 25, pos := "laws.go:118", after := #[{ on := 24, ground := Go.Ground.data }, { on := 22, ground := Go.Ground.chain }, { on := 22, ground := Go.Ground.guard }], guard := some (22, false) }) rfl (fun K hK => ?_) AllReadyH.nil
    go_simp
    refine hK.out _ _ (T13.of xs xp xq xa e2) (fun hHeld => ?_)
    clear hK K
    try simp only [Act.put, List.setIfInBounds_toArray, List.set_cons_succ]
    refine wpAnyH_ready (rs := [27]) (by kernel_rfl) (by simp) ?_
    refine AllReadyH.cons (o := { dst := some 93, op := Go.Op.call { callee := Go.Callee.value (Go.Operand.func 20), args := #[Go.Operand.tmp 91, Go.Operand.tmp 92], argTypes := #[25, 25] }, type := 4, pos := "laws.go:118", after := #[{ on := 25, ground := Go.Ground.data }, { on := 26, ground := Go.Ground.data }, { on := 25, ground := Go.Ground.chain }, { on := 22, ground := Go.Ground.guard }], guard := some (22, false) }) rfl (fun K hK => ?_) AllReadyH.nil
    go_simp
    refine hK.out _ _ (T13.of xs xp xq xa e2) (fun hHeld => ?_)
    clear hK K
    try simp only [Act.put, List.setIfInBounds_toArray, List.set_cons_succ]
    refine' wpAnyH_take (i := 28) (oi := { dst := some 94, op := Go.Op.pick (Go.Operand.tmp 88) (Go.Operand.const (Go.Value.bool true)) (Go.Operand.tmp 93), type := 4, pos := "laws.go:118", after := #[{ on := 22, ground := Go.Ground.data }, { on := 27, ground := Go.Ground.data }, { on := 18, ground := Go.Ground.guard }], guard := some (18, true) }) (v := _) rfl (by kernel_rfl) (by kernel_rfl) (by kernel_rfl) (fun _ _ _ h => h) (Or.inl ⟨by rfl, ?hy28⟩) (by assumption) ?rest28
    case hy28 => (intro w hSw; (try dsimp only at hSw); go_simp; (try with_reducible rfl))
    try simp only [Act.put, List.setIfInBounds_toArray, List.set_cons_succ]
    refine' wpAnyH_take (i := 29) (oi := { dst := some 95, op := Go.Op.pick (Go.Operand.tmp 84) (Go.Operand.tmp 94) (Go.Operand.const (Go.Value.bool false)), type := 4, pos := "laws.go:118", after := #[{ on := 18, ground := Go.Ground.data }, { on := 28, ground := Go.Ground.data }], guard := none }) (v := _) rfl (by kernel_rfl) (by kernel_rfl) (by kernel_rfl) (fun _ _ _ h => h) (Or.inl ⟨by rfl, ?hy29⟩) (by assumption) ?rest29
    case hy29 => (intro w hSw; (try dsimp only at hSw); go_simp; (try with_reducible rfl))
    try simp only [Act.put, List.setIfInBounds_toArray, List.set_cons_succ]
    refine' wpAnyH_take (i := 30) (oi := { dst := some 96, op := Go.Op.move (Go.Operand.tmp 95), type := 4, pos := "laws.go:118", after := #[{ on := 29, ground := Go.Ground.data }, { on := 27, ground := Go.Ground.chain }], guard := none }) (v := _) rfl (by kernel_rfl) (by kernel_rfl) (by kernel_rfl) (fun _ _ _ h => h) (Or.inl ⟨by rfl, ?hy30⟩) (by assumption) ?rest30
    case hy30 => (intro w hSw; (try dsimp only at hSw); go_simp; (try with_reducible rfl))
    try simp only [Act.put, List.setIfInBounds_toArray, List.set_cons_succ]
    refine' wpAnyH_take (i := 31) (oi := { dst := some 97, op := Go.Op.fieldAddr 44 (Go.Operand.tmp 10) 0, type := 0, pos := "laws.go:118", after := #[{ on := 30, ground := Go.Ground.guard }], guard := some (30, true) }) (v := _) rfl (by kernel_rfl) (by kernel_rfl) (by kernel_rfl) (fun _ _ _ h => h) (Or.inl ⟨by rfl, ?hy31⟩) (by assumption) ?rest31
    case hy31 => (intro w hSw; (try dsimp only at hSw); go_simp; (try with_reducible rfl))
    try simp only [Act.put, List.setIfInBounds_toArray, List.set_cons_succ]
    refine' wpAnyH_take (i := 32) (oi := { dst := some 98, op := Go.Op.load 4 (Go.Operand.tmp 97), type := 4, pos := "laws.go:118", after := #[{ on := 31, ground := Go.Ground.data }, { on := 30, ground := Go.Ground.guard }], guard := some (30, true) }) (v := _) rfl (by kernel_rfl) (by kernel_rfl) (by kernel_rfl) (fun _ _ _ h => h) (Or.inl ⟨by rfl, ?hy32⟩) (by assumption) ?rest32
    case hy32 => (intro w hSw; (try dsimp only at hSw); go_simp; (try with_reducible rfl))
    try simp only [Act.put, List.setIfInBounds_toArray, List.set_cons_succ]
    refine' wpAnyH_take (i := 33) (oi := { dst := some 99, op := Go.Op.load 25 (Go.Operand.tmp 3), type := 25, pos := "laws.go:118", after := #[{ on := 30, ground := Go.Ground.guard }], guard := some (30, true) }) (v := _) rfl (by kernel_rfl) (by kernel_rfl) (by kernel_rfl) (fun _ _ _ h => h) (Or.inl ⟨by rfl, ?hy33⟩) (by assumption) ?rest33
    case hy33 => (intro w hSw; (try dsimp only at hSw); go_simp; (try with_reducible rfl))
    try simp only [Act.put, List.setIfInBounds_toArray, List.set_cons_succ]
    refine wpAnyH_ready (rs := [34]) (by kernel_rfl) (by simp) ?_
    refine AllReadyH.cons (o := { dst := some 100, op := Go.Op.call { callee := Go.Callee.value (Go.Operand.func 31), args := #[Go.Operand.tmp 99], argTypes := #[25] }, type := 44, pos := "laws.go:118", after := #[{ on := 33, ground := Go.Ground.data }, { on := 30, ground := Go.Ground.chain }, { on := 30, ground := Go.Ground.guard }], guard := some (30, true) }) rfl (fun K hK => ?_) AllReadyH.nil
    go_simp
    refine (smallSZ (NA.below e2)).mono ?_
    rintro e w20 ⟨rfl, hb20⟩
    rw [HG.out]
    have e5 := e2.trans (hb20.mono e2.size)
    go_wp2_with fail
    refine hK.out _ _ (T13.of xs xp xq xa e5) (fun hHeld => ?_)
    clear hK K
    try simp only [Act.put, List.setIfInBounds_toArray, List.set_cons_succ]
    refine' wpAnyH_take (i := 35) (oi := { dst := some 101, op := Go.Op.field 44 (Go.Operand.tmp 100) 0, type := 4, pos := "laws.go:118", after := #[{ on := 34, ground := Go.Ground.data }, { on := 30, ground := Go.Ground.guard }], guard := some (30, true) }) (v := _) rfl (by kernel_rfl) (by kernel_rfl) (by kernel_rfl) (fun _ _ _ h => h) (Or.inl ⟨by rfl, ?hy35⟩) (by assumption) ?rest35
    case hy35 => (intro w hSw; (try dsimp only at hSw); go_simp; (try with_reducible rfl))
    try simp only [Act.put, List.setIfInBounds_toArray, List.set_cons_succ]
    refine' wpAnyH_take (i := 36) (oi := { dst := some 102, op := Go.Op.binOp Go.BinOp.eql 4 (Go.Operand.tmp 98) (Go.Operand.tmp 101) 4, type := 4, pos := "laws.go:118", after := #[{ on := 32, ground := Go.Ground.data }, { on := 35, ground := Go.Ground.data }, { on := 30, ground := Go.Ground.guard }], guard := some (30, true) }) (v := _) rfl (by kernel_rfl) (by kernel_rfl) (by kernel_rfl) (fun _ _ _ h => h) (Or.inl ⟨by rfl, ?hy36⟩) (by assumption) ?rest36
    case hy36 => (intro w hSw; (try dsimp only at hSw); go_simp; (try with_reducible rfl))
    try simp only [Act.put, List.setIfInBounds_toArray, List.set_cons_succ]
    refine' wpAnyH_take (i := 37) (oi := { dst := some 103, op := Go.Op.pick (Go.Operand.tmp 96) (Go.Operand.tmp 102) (Go.Operand.const (Go.Value.bool false)), type := 4, pos := "laws.go:118", after := #[{ on := 30, ground := Go.Ground.data }, { on := 36, ground := Go.Ground.data }], guard := none }) (v := _) rfl (by kernel_rfl) (by kernel_rfl) (by kernel_rfl) (fun _ _ _ h => h) (Or.inl ⟨by rfl, ?hy37⟩) (by assumption) ?rest37
    case hy37 => (intro w hSw; (try dsimp only at hSw); go_simp; (try with_reducible rfl))
    try simp only [Act.put, List.setIfInBounds_toArray, List.set_cons_succ]
    refine' wpAnyH_take (i := 38) (oi := { dst := some 2, op := Go.Op.assign (Go.Operand.tmp 103), type := 4, pos := "laws.go:118", after := #[{ on := 37, ground := Go.Ground.data }, { on := 34, ground := Go.Ground.chain }, { on := 0, ground := Go.Ground.phase }, { on := 1, ground := Go.Ground.phase }, { on := 2, ground := Go.Ground.phase }, { on := 3, ground := Go.Ground.phase }, { on := 4, ground := Go.Ground.phase }, { on := 5, ground := Go.Ground.phase }, { on := 6, ground := Go.Ground.phase }, { on := 7, ground := Go.Ground.phase }, { on := 8, ground := Go.Ground.phase }, { on := 9, ground := Go.Ground.phase }, { on := 10, ground := Go.Ground.phase }, { on := 11, ground := Go.Ground.phase }, { on := 12, ground := Go.Ground.phase }, { on := 13, ground := Go.Ground.phase }, { on := 14, ground := Go.Ground.phase }, { on := 15, ground := Go.Ground.phase }, { on := 16, ground := Go.Ground.phase }, { on := 17, ground := Go.Ground.phase }, { on := 18, ground := Go.Ground.phase }, { on := 19, ground := Go.Ground.phase }, { on := 20, ground := Go.Ground.phase }, { on := 21, ground := Go.Ground.phase }, { on := 22, ground := Go.Ground.phase }, { on := 23, ground := Go.Ground.phase }, { on := 24, ground := Go.Ground.phase }, { on := 25, ground := Go.Ground.phase }, { on := 26, ground := Go.Ground.phase }, { on := 27, ground := Go.Ground.phase }, { on := 28, ground := Go.Ground.phase }, { on := 29, ground := Go.Ground.phase }, { on := 30, ground := Go.Ground.phase }, { on := 31, ground := Go.Ground.phase }, { on := 32, ground := Go.Ground.phase }, { on := 33, ground := Go.Ground.phase }, { on := 34, ground := Go.Ground.phase }, { on := 35, ground := Go.Ground.phase }, { on := 36, ground := Go.Ground.phase }, { on := 37, ground := Go.Ground.phase }], guard := none }) (v := _) rfl (by kernel_rfl) (by kernel_rfl) (by kernel_rfl) (fun _ _ _ h => h) (Or.inl ⟨by rfl, ?hy38⟩) (by assumption) ?rest38
    case hy38 => (intro w hSw; (try dsimp only at hSw); go_simp; (try with_reducible rfl))
    try simp only [Act.put, List.setIfInBounds_toArray, List.set_cons_succ]
    refine wpAnyH_done (by kernel_rfl) ?_ _
    go_wp2_with fail
    go_ret
    exact ⟨rfl, hw15.trans (e5.mono hw15.size)⟩

end Go.Proofs.Ytpcnmolncoaddaa
