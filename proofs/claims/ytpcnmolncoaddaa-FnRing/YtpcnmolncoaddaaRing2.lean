import Derived.Test.YtpcnmolncoaddaaRing1
import Derived.Deep.RegionHeld3
import Derived.Deep.DeepCutAuto
namespace Go.Proofs.Ytpcnmolncoaddaa
open Go.RowKit Go.Joins

theorem field28 (x : Int) (m : Bool) (a : Option Addr) (n c : Nat) (w : World) : Sem.run Try.prog (Instr.field 28 (.agg #[.int .i64 x, .bool m, .slice a n c]) 1) w = .ok (.agg #[.bool m, .slice a n c]) w := by kernel_rfl

theorem R9.of {W w' : World} {ba bb bs bk : Nat} {xa0 xa1 xb0 xb1 xs0 xs1 xs2 xk0 xk1 xk2 : Value} (xa : At2 W ba xa0 xa1) (xb : At2 W bb xb0 xb1) (xs : At3 W bs xs0 xs1 xs2) (xk : At3 W bk xk0 xk1 xk2) (hb : Below W.heap.size W w') :
    (w'.cell? ⟨ba, 0, none⟩ = some xa0 ∧ w'.cell? ⟨ba, 1, none⟩ = some xa1 ∧ w'.cell? ⟨bb, 0, none⟩ = some xb0 ∧ w'.cell? ⟨bb, 1, none⟩ = some xb1 ∧ w'.cell? ⟨bs, 1, none⟩ = some xs1 ∧ w'.cell? ⟨bs, 2, none⟩ = some xs2 ∧ w'.cell? ⟨bk, 0, none⟩ = some xk0 ∧ w'.cell? ⟨bk, 1, none⟩ = some xk1 ∧ w'.cell? ⟨bk, 2, none⟩ = some xk2) ∧ Below W.heap.size W w' :=
  have a := xa.next hb
  have b := xb.next hb
  have c := xs.next hb
  have d := xk.next hb
  ⟨⟨a.c0, a.c1, b.c0, b.c1, c.c1, c.c2, d.c0, d.c1, d.c2⟩, hb⟩

theorem R14.of {W w' : World} {bx bY bz : Nat} {xs0 xs1 xs2 xk0 xk1 xk2 xz0 xz1 xz2 : Value} (xx : At3 W bx xs0 xs1 xs2) (xy : At3 W bY xk0 xk1 xk2) (xz : At3 W bz xz0 xz1 xz2) (hb : Below W.heap.size W w') :
    (w'.cell? ⟨bx, 0, none⟩ = some xs0 ∧ w'.cell? ⟨bx, 1, none⟩ = some xs1 ∧ w'.cell? ⟨bx, 2, none⟩ = some xs2 ∧ w'.cell? ⟨bY, 0, none⟩ = some xk0 ∧ w'.cell? ⟨bY, 1, none⟩ = some xk1 ∧ w'.cell? ⟨bY, 2, none⟩ = some xk2 ∧ w'.cell? ⟨bz, 0, none⟩ = some xz0 ∧ w'.cell? ⟨bz, 1, none⟩ = some xz1 ∧ w'.cell? ⟨bz, 2, none⟩ = some xz2) ∧ Below W.heap.size W w' :=
  have a := xx.next hb
  have b := xy.next hb
  have c := xz.next hb
  ⟨⟨a.c0, a.c1, a.c2, b.c0, b.c1, b.c2, c.c0, c.c1, c.c2⟩, hb⟩

set_option maxHeartbeats 4000000 in
set_option maxRecDepth 100000 in
theorem lawRing (v : Value) (k : Nat) (w : World) (hB : Byt w v k) (hk2 : k ≤ 9223372036854775807) :
    Calls Try.prog 3 #[v] w fun e w' => e = .returned (.bool true) ∧ Below w.heap.size w w' := by
  obtain ⟨av, cv, rfl, -⟩ := id hB
  by_cases hbig : 1048576 < k
  · go_enter Try.func3, Try.ntmps3
    go_wp2_with fail
    go_ret
    exact ⟨rfl, Below.refl _ _⟩
  go_enter Try.func3, Try.ntmps3
  go_wp2_with fail
  refine (lwBig_any _ k 0 w hB (by omega) (by omega)).mono ?_
  rintro e w1 ⟨ma, va, na, fa, A, rfl, oa, NA, hb1⟩
  obtain ⟨aa, ca, rfl⟩ := NA.slice
  have xa := At2.start w1 (.bool ma) (.slice aa na ca) 25
  have hc1 := below_alloc1 w1 (.cells #[.bool ma, .slice aa na ca] 25)
  replace NA := NA.below hc1
  have hw1 := hb1.trans (hc1.mono hb1.size)
  have hB1 := hB.below hw1
  clear oa hb1 hc1 hB
  go_wp2_with fail
  refine (lwBig_any _ k 2 _ hB1 (by omega) (by omega)).mono ?_
  rintro e w2 ⟨mb, vb, nb, fb, B, rfl, ob, NB, hb2⟩
  obtain ⟨ab, cb, rfl⟩ := NB.slice
  have xb := At2.start w2 (.bool mb) (.slice ab nb cb) 25
  have hc2 := below_alloc1 w2 (.cells #[.bool mb, .slice ab nb cb] 25)
  have hd2 := hb2.trans (hc2.mono hb2.size)
  replace NB := NB.below hc2
  replace NA := NA.below hd2
  replace xa := xa.next hd2
  have hw2 := hw1.trans (hd2.mono hw1.size)
  have hB2 := hB1.below hd2
  clear ob hb2 hc2 hB1 hw1 hd2
  go_wp2_with fail
  refine (lwBig_any _ k 4 _ hB2 (by omega) (by omega)).mono ?_
  rintro e w3 ⟨mc, vc, nc, fc, C, rfl, oc, NC, hb3⟩
  obtain ⟨ac, cc, rfl⟩ := NC.slice
  have xc := At2.start w3 (.bool mc) (.slice ac nc cc) 25
  have hc3 := below_alloc1 w3 (.cells #[.bool mc, .slice ac nc cc] 25)
  have hd3 := hb3.trans (hc3.mono hb3.size)
  replace NC := NC.below hc3
  replace NB := NB.below hd3
  replace NA := NA.below hd3
  replace xa := xa.next hd3
  replace xb := xb.next hd3
  have hw3 := hw2.trans (hd3.mono hw2.size)
  clear oc hb3 hc3 hB2 hw2 hd3
  obtain ⟨a0, a1, alt⟩ := id xa
  obtain ⟨b0, b1, blt⟩ := id xb
  go_wp2_with fail
  refine (iAddZ NA NB).mono ?_
  rintro e w4 ⟨hs, hb4⟩
  obtain ⟨ks, ms, az, ns, cz, fs, rfl, os, hs⟩ := hs.one
  have hc4 := below_alloc1 w4 (.cells #[.int .i64 ks, .bool ms, .slice az ns cz] 28)
  have hd4 := hb4.trans (hc4.mono hb4.size)
  replace NA := NA.below hd4
  replace NB := NB.below hd4
  replace NC := NC.below hd4
  replace xa := xa.next hd4
  replace xb := xb.next hd4
  replace xc := xc.next hd4
  have xs := At3.start w4 (.int .i64 ks) (.bool ms) (.slice az ns cz) 28
  have hw4 := hw3.trans (hd4.mono hw3.size)
  replace hs := hs.imp (fun h => (⟨h.1, h.2.1, h.2.2.below hc4⟩ : _ ∧ _ ∧ _)) id
  clear os hb4 hc4 hw3 hd4 a0 a1 alt b0 b1 blt
  generalize hba : w1.heap.size = ba at *
  generalize hbb : w2.heap.size = bb at *
  generalize hbc : w3.heap.size = bc at *
  clear hba hbb hbc
  obtain ⟨s0, s1, s2, slt⟩ := id xs
  go_upto_if 29 with fail
  clear s0 s1 s2 slt
  generalize hW4 : w4.alloc (.cells #[.int .i64 ks, .bool ms, .slice az ns cz] 28) = W4 at *
  generalize hbs : w4.heap.size = bs at *
  clear hW4 hbs
  go_cut [7, 8, 9, 10] (fun _ _ _ _ wx => Below W4.heap.size W4 wx)
  case first =>
    rcases hs with ⟨rfl, hs1, NS⟩ | ⟨rfl, hs1⟩
    · obtain ⟨b0, b1, blt⟩ := id xb
      obtain ⟨s0, s1, s2, slt⟩ := id xs
      go_wp2_with fail
      refine (iSubZ NS NB).mono ?_
      rintro e w5 ⟨hk5, hb5⟩
      obtain ⟨mk, vk, nk, fk, rfl, ok, NK⟩ := hk5.1 (by rw [Int.add_sub_cancel]; exact NA.lid)
      rw [Int.add_sub_cancel] at NK
      obtain ⟨ak, ck, rfl⟩ := NK.slice
      have hc5 := below_alloc1 w5 (.cells #[.int .i64 0, .bool mk, .slice ak nk ck] 28)
      have hd5 := hb5.trans (hc5.mono hb5.size)
      have xk := At3.start w5 (.int .i64 0) (.bool mk) (.slice ak nk ck) 28
      replace NA := NA.below hd5
      replace NB := NB.below hd5
      replace NC := NC.below hd5
      replace NS := NS.below hd5
      replace NK := NK.below hc5
      replace xa := xa.next hd5
      replace xb := xb.next hd5
      replace xc := xc.next hd5
      replace xs := xs.next hd5
      clear hk5 ok hb5 hc5 b0 b1 blt s0 s1 s2 slt
      go_upto_region 9 with fail
      generalize hW5 : w5.alloc (.cells #[.int .i64 0, .bool mk, .slice ak nk ck] 28) = W5 at *
      generalize hbk : w5.heap.size = bk at *
      clear hW5 hbk
      go_cut [58] (fun s58 wx => s58 = .bool false ∧ Below W5.heap.size W5 wx)
      case first =>
        as_aux_lemma =>
          have hfd := field28
          go_region_held3 (fun w' => (w'.cell? ⟨ba, 0, none⟩ = some (.bool ma) ∧ w'.cell? ⟨ba, 1, none⟩ = some (.slice aa na ca) ∧ w'.cell? ⟨bb, 0, none⟩ = some (.bool mb) ∧ w'.cell? ⟨bb, 1, none⟩ = some (.slice ab nb cb) ∧ w'.cell? ⟨bs, 1, none⟩ = some (.bool ms) ∧ w'.cell? ⟨bs, 2, none⟩ = some (.slice az ns cz) ∧ w'.cell? ⟨bk, 0, none⟩ = some (.int .i64 0) ∧ w'.cell? ⟨bk, 1, none⟩ = some (.bool mk) ∧ w'.cell? ⟨bk, 2, none⟩ = some (.slice ak nk ck)) ∧ Below W5.heap.size W5 w') (first | exact R9.of xa xb xs xk (below_drew0 _) | exact R9.of xa xb xs xk e1 | exact R9.of xa xb xs xk e2 | exact R9.of xa xb xs xk e3 | exact R9.of xa xb xs xk e4) (first
            | (go_at_call 19; refine (iFault_any ms _ ns fs _ (NS.lim.below (below_drew0 _))).mono ?_; rintro e w6 ⟨rfl, hb6⟩; rw [NS.fault]; have e1 := (below_drew0 W5).trans hb6)
            | (go_at_call 17; refine (iAddZ (NB.below e2) (NA.below e2)).mono ?_; rintro e w8 ⟨hk8, hb8⟩; (obtain ⟨m8, v8, n8, f8, rfl, ok8, N8⟩ := hk8.1 (by rw [Int.add_comm]; exact hs1)); (obtain ⟨a8, c8, rfl⟩ := N8.slice); have e3 := e2.trans (hb8.mono e2.size))
            | (go_at_call_of 20 (Value.agg #[Value.bool mk, Value.slice ak nk ck]); refine (sameBig_any (NK.below e1) (NA.below e1)).mono ?_; rintro e w7 ⟨rfl, hb7⟩; have e2 := e1.trans (hb7.mono e1.size); rw [decide_eq_true (p := A = A) rfl])
            | (go_at_call_of 20 (Value.agg #[Value.bool m8, Value.slice a8 n8 c8]); refine (sameBig_any N8 (NS.below e3)).mono ?_; rintro e w9 ⟨rfl, hb9⟩; have e4 := e3.trans (hb9.mono e3.size); rw [decide_eq_true (p := B + A = A + B) (Int.add_comm _ _)]))
          all_goals
            go_wp2_with fail
            go_meet
            case rel => exact ⟨rfl, e4⟩
      case rest =>
        as_aux_lemma =>
          obtain ⟨rfl, hb6⟩ := hcut
          replace NA := NA.below hb6
          replace NB := NB.below hb6
          replace NC := NC.below hb6
          replace NS := NS.below hb6
          replace xa := xa.next hb6
          replace xb := xb.next hb6
          replace xc := xc.next hb6
          replace xs := xs.next hb6
          have hd6 := hd5.trans (hb6.mono hd5.size)
          clear NK xk hd5 hb6
          rename World => w6
          obtain ⟨a0, a1, alt⟩ := id xa
          obtain ⟨b0, b1, blt⟩ := id xb
          obtain ⟨c0, c1, clt⟩ := id xc
          obtain ⟨s0, s1, s2, slt⟩ := id xs
          go_wp2_with fail
          refine (iMulZ NS NC).mono ?_
          rintro e w7 ⟨h7, hb7⟩
          obtain ⟨kx, mx, ax, nx, cx, fx, rfl, -, hX⟩ := h7.one
          have hc7 := below_alloc1 w7 (.cells #[.int .i64 kx, .bool mx, .slice ax nx cx] 28)
          have hd7 := hb7.trans (hc7.mono hb7.size)
          replace hX := hX.imp (fun h => (⟨h.1, h.2.1, h.2.2.below hc7⟩ : _ ∧ _ ∧ _)) id
          have xx := At3.start w7 (.int .i64 kx) (.bool mx) (.slice ax nx cx) 28
          replace NA := NA.below hd7
          replace NB := NB.below hd7
          replace NC := NC.below hd7
          replace xa := xa.next hd7
          replace xb := xb.next hd7
          replace xc := xc.next hd7
          have hD7 := hd6.trans (hd7.mono hd6.size)
          clear NS xs hd6 hd7 hb7 h7 hc7 a0 a1 alt b0 b1 blt c0 c1 clt s0 s1 s2 slt
          obtain ⟨a0, a1, alt⟩ := id xa
          obtain ⟨b0, b1, blt⟩ := id xb
          obtain ⟨c0, c1, clt⟩ := id xc
          go_wp2_with fail
          refine (iMulZ NA NC).mono ?_
          rintro e w8 ⟨h8, hb8⟩
          obtain ⟨ky, my, ay, ny, cy, fy, rfl, -, hY⟩ := h8.one
          have hc8 := below_alloc1 w8 (.cells #[.int .i64 ky, .bool my, .slice ay ny cy] 28)
          have hd8 := hb8.trans (hc8.mono hb8.size)
          replace hY := hY.imp (fun h => (⟨h.1, h.2.1, h.2.2.below hc8⟩ : _ ∧ _ ∧ _)) id
          have xy := At3.start w8 (.int .i64 ky) (.bool my) (.slice ay ny cy) 28
          replace NB := NB.below hd8
          replace NC := NC.below hd8
          replace xb := xb.next hd8
          replace xc := xc.next hd8
          replace xx := xx.next hd8
          replace hX := hX.imp (fun h => (⟨h.1, h.2.1, h.2.2.below hd8⟩ : _ ∧ _ ∧ _)) id
          have hD8 := hD7.trans (hd8.mono hD7.size)
          clear hd8 hb8 h8 hc8 a0 a1 alt b0 b1 blt c0 c1 clt hD7
          obtain ⟨b0, b1, blt⟩ := id xb
          obtain ⟨c0, c1, clt⟩ := id xc
          go_wp2_with fail
          refine (iMulZ NB NC).mono ?_
          rintro e w9 ⟨h9, hb9⟩
          obtain ⟨kz, mz, aq, nz, cq, fz, rfl, -, hZ⟩ := h9.one
          have hc9 := below_alloc1 w9 (.cells #[.int .i64 kz, .bool mz, .slice aq nz cq] 28)
          have hd9 := hb9.trans (hc9.mono hb9.size)
          replace hZ := hZ.imp (fun h => (⟨h.1, h.2.1, h.2.2.below hc9⟩ : _ ∧ _ ∧ _)) id
          have xz := At3.start w9 (.int .i64 kz) (.bool mz) (.slice aq nz cq) 28
          replace xx := xx.next hd9
          replace xy := xy.next hd9
          replace hX := hX.imp (fun h => (⟨h.1, h.2.1, h.2.2.below hd9⟩ : _ ∧ _ ∧ _)) id
          replace hY := hY.imp (fun h => (⟨h.1, h.2.1, h.2.2.below hd9⟩ : _ ∧ _ ∧ _)) id
          have hD9 := hD8.trans (hd9.mono hD8.size)
          clear hd9 hb9 h9 hc9 b0 b1 blt c0 c1 clt hD8
          go_upto_region 14 with fail
          generalize hW9 : w9.alloc (.cells #[.int .i64 kz, .bool mz, .slice aq nz cq] 28) = W9 at *
          generalize hbz : w9.heap.size = bz at *
          generalize hbY : w8.heap.size = bY at *
          generalize hbx : w7.heap.size = bx at *
          clear hW9 hbz hbY hbx
          go_cut [93] (fun s93 wx => s93 = .bool false ∧ Below W9.heap.size W9 wx)
          case first =>
            obtain ⟨p0, p1, p2, plt⟩ := id xx
            obtain ⟨q0, q1, q2, qlt⟩ := id xy
            obtain ⟨r0, r1, r2, rlt⟩ := id xz
            rcases hX with ⟨rfl, hX1, NX⟩ | ⟨rfl, -⟩
            · rcases hY with ⟨rfl, hY1, NY⟩ | ⟨rfl, -⟩
              · rcases hZ with ⟨rfl, hZ1, NZ⟩ | ⟨rfl, -⟩
                · have hfd := field28
                  have hdist : A * C + B * C = (A + B) * C := (Int.add_mul A B C).symm
                  have HD := hide hdist
                  clear hdist
                  go_region_held3 (fun w' => (w'.cell? ⟨bx, 0, none⟩ = some (.int .i64 0) ∧ w'.cell? ⟨bx, 1, none⟩ = some (.bool mx) ∧ w'.cell? ⟨bx, 2, none⟩ = some (.slice ax nx cx) ∧ w'.cell? ⟨bY, 0, none⟩ = some (.int .i64 0) ∧ w'.cell? ⟨bY, 1, none⟩ = some (.bool my) ∧ w'.cell? ⟨bY, 2, none⟩ = some (.slice ay ny cy) ∧ w'.cell? ⟨bz, 0, none⟩ = some (.int .i64 0) ∧ w'.cell? ⟨bz, 1, none⟩ = some (.bool mz) ∧ w'.cell? ⟨bz, 2, none⟩ = some (.slice aq nz cq)) ∧ Below W9.heap.size W9 w') (first | exact R14.of xx xy xz (below_drew0 _) | exact R14.of xx xy xz e1 | exact R14.of xx xy xz e2) (first
                    | (go_at_call 17; refine (iAddZ (NY.below (below_drew0 _)) (NZ.below (below_drew0 _))).mono ?_; rintro e w10 ⟨h10, hb10⟩; (obtain ⟨m8, v8, n8, f8, rfl, ok8, N8⟩ := h10.1 (by rw [HD.out]; exact hX1)); (obtain ⟨a8, c8, rfl⟩ := N8.slice); have e1 := (below_drew0 W9).trans hb10)
                    | (go_at_call 20; refine (sameBig_any N8 (NX.below e1)).mono ?_; rintro e w11 ⟨rfl, hb11⟩; have e2 := e1.trans (hb11.mono e1.size); rw [decide_eq_true HD.out]))
                  all_goals
                    go_wp2_with fail
                    go_meet
                    case rel => exact ⟨rfl, e2⟩
                · go_quiet (fail)
                  go_wp2_with fail
                  go_meet
                  case rel => exact ⟨rfl, below_drewN _ _⟩
              · go_quiet (fail)
                go_wp2_with fail
                go_meet
                case rel => exact ⟨rfl, below_drewN _ _⟩
            · go_quiet (fail)
              go_wp2_with fail
              go_meet
              case rel => exact ⟨rfl, below_drewN _ _⟩
          case rest =>
            obtain ⟨rfl, hb10⟩ := hcut
            go_wp2_with fail
            go_meet
            case rel => exact hD9.trans (hb10.mono hD9.size)
    · obtain ⟨a0, a1, alt⟩ := id xa
      obtain ⟨b0, b1, blt⟩ := id xb
      obtain ⟨s0, s1, s2, slt⟩ := id xs
      have hln := sum_large NA NB hs1
      by_cases h40 : na < 40
      · have hnb : 40 ≤ nb := by omega
        have d1 : decide ((nb : Int) < 40) = false := by simp; omega
        clear hln
        go_wp2_with fail
        go_meet
        case rel => first | exact Below.refl _ _ | exact below_drewN _ _ | exact below_drew0 _
      · have d1 : decide ((na : Int) < 40) = false := by simp; omega
        clear hln
        go_wp2_with fail
        go_meet
        case rel => first | exact Below.refl _ _ | exact below_drewN _ _ | exact below_drew0 _
  case rest =>
    as_aux_lemma =>
      replace NA := NA.below hcut
      replace NB := NB.below hcut
      replace xa := xa.next hcut
      replace xb := xb.next hcut
      have hw5 := hw4.trans (hcut.mono hw4.size)
      clear NC xc xs hs hcut hw4
      rename World => w5
      obtain ⟨a0, a1, alt⟩ := id xa
      obtain ⟨b0, b1, blt⟩ := id xb
      go_wp2_with fail
      refine (iSubZ NA NB).mono ?_
      rintro e w6 ⟨h6, hb6⟩
      obtain ⟨kd, md, ad, nd, cd, fd, rfl, -, hD⟩ := h6.one
      have hc6 := below_alloc1 w6 (.cells #[.int .i64 kd, .bool md, .slice ad nd cd] 28)
      have hd6 := hb6.trans (hc6.mono hb6.size)
      replace hD := hD.imp (fun h => (⟨h.1, h.2.1, h.2.2.below hc6⟩ : _ ∧ _ ∧ _)) id
      have xd := At3.start w6 (.int .i64 kd) (.bool md) (.slice ad nd cd) 28
      replace NA := NA.below hd6
      replace NB := NB.below hd6
      replace xa := xa.next hd6
      replace xb := xb.next hd6
      have hw6 := hw5.trans (hd6.mono hw5.size)
      clear h6 hb6 hc6 hd6 hw5 a0 a1 alt b0 b1 blt
      obtain ⟨a0, a1, alt⟩ := id xa
      obtain ⟨b0, b1, blt⟩ := id xb
      go_wp2_with fail
      refine (iCompareZ NA NB).mono ?_
      rintro e w7 ⟨rfl, hb7⟩
      replace NA := NA.below hb7
      replace NB := NB.below hb7
      replace xa := xa.next hb7
      replace xb := xb.next hb7
      replace xd := xd.next hb7
      replace hD := hD.imp (fun h => (⟨h.1, h.2.1, h.2.2.below hb7⟩ : _ ∧ _ ∧ _)) id
      have hw7 := hw6.trans (hb7.mono hw6.size)
      clear hb7 hw6 a0 a1 alt b0 b1 blt
      generalize hbd : w6.heap.size = bd at *
      clear hbd
      obtain ⟨a0, a1, alt⟩ := id xa
      obtain ⟨b0, b1, blt⟩ := id xb
      obtain ⟨d0, d1, d2, dlt⟩ := id xd
      go_upto_region 20 with fail
      go_cut [12, 143] (fun _ s143 wx => s143 = .bool false ∧ Below w7.heap.size w7 wx)
      case first =>
        rcases hD with ⟨rfl, -, ND⟩ | ⟨rfl, -⟩
        · have hmd := ND.sign
          have hnd := ND.norm.pos
          rcases Int.lt_trichotomy A B with hl | hl | hl
          · have o1 : ord A B = -1 := by unfold ord; rw [if_pos hl]
            have o2 : ord B A = 1 := by unfold ord; rw [if_neg (by omega), if_pos hl]
            have hm1 : md = true := by rw [hmd]; simp; omega
            have hn1 : ((nd : Int) == 0) = false := by simp; omega
            rw [o1]
            subst hm1
            clear hmd hnd o1 hl
            go_wp2_with fail
            refine (iCompareZ NB NA).mono ?_
            rintro e w8 ⟨rfl, hb8⟩
            rw [o2]
            go_wp2_with fail
            go_meet
            case rel => exact ⟨rfl, hb8⟩
          · have o1 : ord A B = 0 := by unfold ord; rw [if_neg (by omega), if_neg (by omega)]
            have o2 : ord B A = 0 := by unfold ord; rw [if_neg (by omega), if_neg (by omega)]
            have hm1 : md = false := by rw [hmd]; simp; omega
            have hn1 : ((nd : Int) == 0) = true := by simp; omega
            rw [o1]
            subst hm1
            clear hmd hnd o1 hl
            go_wp2_with fail
            refine (iCompareZ NB NA).mono ?_
            rintro e w8 ⟨rfl, hb8⟩
            rw [o2]
            go_wp2_with fail
            go_meet
            case rel => exact ⟨rfl, hb8⟩
          · have o1 : ord A B = 1 := by unfold ord; rw [if_neg (by omega), if_pos hl]
            have o2 : ord B A = -1 := by unfold ord; rw [if_pos hl]
            have hm1 : md = false := by rw [hmd]; simp; omega
            have hn1 : ((nd : Int) == 0) = false := by simp; omega
            rw [o1]
            subst hm1
            clear hmd hnd o1 hl
            go_wp2_with fail
            refine (iCompareZ NB NA).mono ?_
            rintro e w8 ⟨rfl, hb8⟩
            rw [o2]
            go_wp2_with fail
            go_meet
            case rel => exact ⟨rfl, hb8⟩
        · go_wp2_with fail
          go_meet
          case rel => exact ⟨rfl, Below.refl _ _⟩
      case rest =>
        obtain ⟨rfl, hb8⟩ := hcut
        replace NA := NA.below hb8
        replace NB := NB.below hb8
        replace xa := xa.next hb8
        replace xb := xb.next hb8
        have hw8 := hw7.trans (hb8.mono hw7.size)
        clear hD xd hb8 hw7 a0 a1 alt b0 b1 blt d0 d1 d2 dlt
        rename World => w8
        obtain ⟨a0, a1, alt⟩ := id xa
        obtain ⟨b0, b1, blt⟩ := id xb
        have hna := NA.le
        have hnb := NB.le
        go_wp2_with fail
        refine (iMulZ NA NB).mono ?_
        rintro e w9 ⟨h9, hb9⟩
        obtain ⟨kp, mp, ap, np, cp, fp, rfl, -, hP⟩ := h9.one
        have hc9 := below_alloc1 w9 (.cells #[.int .i64 kp, .bool mp, .slice ap np cp] 28)
        have hd9 := hb9.trans (hc9.mono hb9.size)
        have xp := At3.start w9 (.int .i64 kp) (.bool mp) (.slice ap np cp) 28
        replace xa := xa.next hd9
        replace xb := xb.next hd9
        have hw9 := hw8.trans (hd9.mono hw8.size)
        clear h9 hb9 hc9 hd9 hw8 a0 a1 alt b0 b1 blt
        obtain ⟨a0, a1, alt⟩ := id xa
        obtain ⟨b0, b1, blt⟩ := id xb
        obtain ⟨p0, p1, p2, plt⟩ := id xp
        rcases hP with ⟨rfl, -, NP⟩ | ⟨rfl, hP1⟩
        · obtain ⟨l1, l2, l3⟩ := mul_len NA NB NP
          by_cases ha : na = 0
          · have u1 : ((na : Int) == 0) = true := by simp [ha]
            have u2 : ((np : Int) == 0) = true := by simp [l3, ha]
            clear l2 l3 ha
            go_wp2_with fail
            all_goals
              go_ret
              exact ⟨rfl, hw9⟩
          · by_cases hb : nb = 0
            · have u0 : ((na : Int) == 0) = false := by simp [ha]
              have u1 : ((nb : Int) == 0) = true := by simp [hb]
              have u2 : ((np : Int) == 0) = true := by simp [l3, hb]
              clear l2 l3 ha hb
              go_wp2_with fail
              all_goals
                go_ret
                exact ⟨rfl, hw9⟩
            · have u0 : ((na : Int) == 0) = false := by simp [ha]
              have u1 : ((nb : Int) == 0) = false := by simp [hb]
              have u2 : ((np : Int) == 0) = false := by simp [l3, ha, hb]
              replace l2 := l2 (by omega) (by omega)
              clear l3 ha hb
              go_wp2_with fail
              all_goals
                go_ret
                exact ⟨rfl, hw9⟩
        · have hl := mul_large NA NB hP1
          clear hP1
          go_wp2_with fail
          go_ret
          exact ⟨ret_bool (decide_eq_true (by omega)), hw9⟩

end Go.Proofs.Ytpcnmolncoaddaa
