import Derived.Test.YtkjbkmhmghmodaaBd
namespace Go.Proofs.Ytkjbkmhmghmodaa
open Go.RowKit Go.Joins

/-- A data with none. -/
theorem bs_none {M : Nat} {Lr : List Value} {V0 V : World} {nc nd : Nat} {Cx Dx : Fo} {pc pd : Option Addr} {qc qd : Nat} {C D : Fo} (h : BS M Lr V0 nc nd Cx Dx pc pd qc qd C D V) (nm : ByteArray) (vars : Int) (hnc : nc ≤ 1000) (hnd : nd ≤ 1000) :
    Calls Try.prog 34 #[.pointer (some ⟨M, 0, none⟩), .string nm, .int .i64 vars, .slice none 0 0] V fun e V' => ∃ pc' qc' pd' qd' C' D', e = .returned (.tuple #[]) ∧ Hid (BS M Lr V0 nc (nd + 1) Cx (Dx.app (dat nm vars 0 .nil)) pc' pd' qc' qd' C' D' V') := by
  refine (bs_tell h nm vars 0 M none 0 .nil .nil (by omega) hnc hnd trivial trivial h.bm.lt (fun h0 => by omega) (((h.hp.mono (Q := fun c => c ≤ M ∨ c = M) (fun c _ hp hq => hp (by omega))).plain .nil (fun _ _ => trivial) rfl).perm (rot3 _ _ _).symm)).mono ?_
  rintro e V' ⟨pc', qc', pd', qd', C', D', rfl, z⟩
  have e1 : told nm vars 0 .nil = .nil := rfl
  have e2 : names .nil = .nil := rfl
  rw [e1, e2, Fo.app_nil] at z
  exact ⟨pc', qc', pd', qd', C', D', rfl, z⟩

theorem kL_own (w : World) (o1 o3 : Obj) (t : TypeId) (U : World) (hU : (((((w.alloc o1).alloc (.cells #[.int .i64 2, .int .i64 0, .string ⟨#[]⟩, .slice none 0 0] 66)).alloc o3).alloc (.cells #[.int .i64 2, .int .i64 0, .string ⟨#[]⟩, .slice none 0 0, .int .i64 3, .int .i64 0, .string sList, .slice (some ⟨w.heap.size + 1, 0, none⟩) 1 1] 66)).alloc (.cells #[.string sList, .string ⟨#[]⟩, .int .i64 0, .int .i64 0, .slice none 0 0, .string sCons, .string ⟨#[]⟩, .int .i64 0, .int .i64 0, .slice (some ⟨w.heap.size + 1 + 1 + 1, 0, none⟩) 2 2] t)) = U) :
    Own w.heap.size U (kL (some ⟨w.heap.size + 1 + 1 + 1, 0, none⟩) (some ⟨w.heap.size + 1, 0, none⟩) 2 1) ∧ Cel U (kL (some ⟨w.heap.size + 1 + 1 + 1, 0, none⟩) (some ⟨w.heap.size + 1, 0, none⟩) 2 1).vals (w.heap.size + 1 + 1 + 1 + 1) 0 ∧ Kept (fun _ => True) w U ∧ U.heap.size = w.heap.size + 1 + 1 + 1 + 1 + 1 := by
  obtain ⟨u1, h1⟩ : ∃ u1, w.alloc o1 = u1 := ⟨_, rfl⟩
  rw [h1] at hU
  obtain ⟨u2, h2⟩ : ∃ u2, u1.alloc (.cells #[.int .i64 2, .int .i64 0, .string ⟨#[]⟩, .slice none 0 0] 66) = u2 := ⟨_, rfl⟩
  rw [h2] at hU
  obtain ⟨u3, h3⟩ : ∃ u3, u2.alloc o3 = u3 := ⟨_, rfl⟩
  rw [h3] at hU
  obtain ⟨u4, h4⟩ : ∃ u4, u3.alloc (.cells #[.int .i64 2, .int .i64 0, .string ⟨#[]⟩, .slice none 0 0, .int .i64 3, .int .i64 0, .string sList, .slice (some ⟨w.heap.size + 1, 0, none⟩) 1 1] 66) = u4 := ⟨_, rfl⟩
  rw [h4] at hU
  have z1 : u1.heap.size = w.heap.size + 1 := by rw [← h1]; simp
  have z2 : u2.heap.size = w.heap.size + 1 + 1 := by rw [← h2, World.size_alloc, z1]
  have z3 : u3.heap.size = w.heap.size + 1 + 1 + 1 := by rw [← h3, World.size_alloc, z2]
  have z4 : u4.heap.size = w.heap.size + 1 + 1 + 1 + 1 := by rw [← h4, World.size_alloc, z3]
  have z5 : U.heap.size = w.heap.size + 1 + 1 + 1 + 1 + 1 := by rw [← hU, World.size_alloc, z4]
  have k1 : Kept (fun _ => True) w u1 := by rw [← h1]; exact Kept.alloc _ _ _
  have k2 : Kept (fun _ => True) u1 u2 := by rw [← h2]; exact Kept.alloc _ _ _
  have k3 : Kept (fun _ => True) u2 u3 := by rw [← h3]; exact Kept.alloc _ _ _
  have k4 : Kept (fun _ => True) u3 u4 := by rw [← h4]; exact Kept.alloc _ _ _
  have k5 : Kept (fun _ => True) u4 U := by rw [← hU]; exact Kept.alloc _ _ _
  have b2 : Bx U (w.heap.size + 1) [.int .i64 2, .int .i64 0, .string ⟨#[]⟩, .slice none 0 0] := by
    have := Bx.new u1 [.int .i64 2, .int .i64 0, .string ⟨#[]⟩, .slice none 0 0] 66
    rw [z1] at this
    rw [h2] at this
    exact this.kept ((k3.trans k4).trans k5) trivial
  have b4 : Bx U (w.heap.size + 1 + 1 + 1) [.int .i64 2, .int .i64 0, .string ⟨#[]⟩, .slice none 0 0, .int .i64 3, .int .i64 0, .string sList, .slice (some ⟨w.heap.size + 1, 0, none⟩) 1 1] := by
    have := Bx.new u3 [.int .i64 2, .int .i64 0, .string ⟨#[]⟩, .slice none 0 0, .int .i64 3, .int .i64 0, .string sList, .slice (some ⟨w.heap.size + 1, 0, none⟩) 1 1] 66
    rw [z3] at this
    rw [h4] at this
    exact this.kept k5 trivial
  have b5 : Bx U (w.heap.size + 1 + 1 + 1 + 1) [.string sList, .string ⟨#[]⟩, .int .i64 0, .int .i64 0, .slice none 0 0, .string sCons, .string ⟨#[]⟩, .int .i64 0, .int .i64 0, .slice (some ⟨w.heap.size + 1 + 1 + 1, 0, none⟩) 2 2] := by
    have := Bx.new u4 [.string sList, .string ⟨#[]⟩, .int .i64 0, .int .i64 0, .slice none 0 0, .string sCons, .string ⟨#[]⟩, .int .i64 0, .int .i64 0, .slice (some ⟨w.heap.size + 1 + 1 + 1, 0, none⟩) 2 2] t
    rw [z4] at this
    rw [hU] at this
    exact this
  have hn : ∀ (S : Nat → Prop), Fo.Subs U S (.s none 0 0 .nil .nil) := fun S => ⟨⟨Nat.le_refl _, Nat.zero_le _, fun h => by simp [Fo.len] at h⟩, trivial⟩
  refine ⟨⟨?_, ?_, ?_⟩, b5.cel_cells, (((k1.trans k2).trans k3).trans k4).trans k5, z5⟩
  · refine ⟨(hn _).1, ⟨by omega, by unfold maxLen; omega, fun _ => ⟨_, 0, rfl, by omega, b4.cel_cells, ?_⟩⟩, trivial⟩
    exact ⟨(hn _).1, ⟨by omega, by unfold maxLen; omega, fun _ => ⟨_, 0, rfl, by omega, b2.cel_cells, ⟨(hn _).1, trivial⟩⟩⟩, trivial⟩
  · show [w.heap.size + 1 + 1 + 1, w.heap.size + 1].Nodup
    simp
    omega
  · intro c hc j
    have hc' : c ∈ [w.heap.size + 1 + 1 + 1, w.heap.size + 1] := hc
    rcases List.mem_cons.1 hc' with e | hc'
    · rw [e]; exact b4.live j
    · rcases List.mem_cons.1 hc' with e | hc'
      · rw [e]; exact b2.live j
      · exact absurd hc' List.not_mem_nil

theorem ct_next (i : Nat) (h : 2 ≤ i) : ct (i + 1) = (ct i).app (tupC i) ∧ dt (i + 1) = (dt i).app (tupD i) := by
  obtain ⟨j, rfl⟩ : ∃ j, i = j + 2 := ⟨i - 2, by omega⟩
  exact ⟨rfl, rfl⟩

def zeroM : List Value := [.slice none 0 0, .slice none 0 0, .slice none 0 0, .map none, .map none, .map none, .map none, .map none, .map none, .slice none 0 0, .map none]

set_option maxHeartbeats 4000000 in
set_option maxRecDepth 100000 in
theorem i_Builtins (W : World) : Calls Try.prog 8 #[] W fun e W' => ∃ R : Fo, e = .returned (.agg R.vals.toArray) ∧ R.sim ansB ∧ Below W.heap.size W W' ∧ Own W.heap.size W' R := by
  obtain ⟨V0, hV0⟩ : ∃ V0, W.alloc (.cells #[.slice none 0 0, .slice none 0 0, .slice none 0 0, .slice none 0 0, .slice none 0 0] 28) = V0 := ⟨_, rfl⟩
  obtain ⟨V1, hV1⟩ : ∃ V1, V0.alloc (.cells #[.slice none 0 0, .slice none 0 0, .slice none 0 0, .slice none 0 0, .slice none 0 0, .map none, .map none, .map none, .map none, .map none, .map none, .slice none 0 0, .map none] 78) = V1 := ⟨_, rfl⟩
  have z0 : V0.heap.size = W.heap.size + 1 := by rw [← hV0]; simp
  have z1 : V1.heap.size = W.heap.size + 1 + 1 := by rw [← hV1, World.size_alloc, z0]
  have k0 : Kept (fun _ => True) W V0 := by rw [← hV0]; exact Kept.alloc _ _ _
  have k1 : Kept (fun _ => True) V0 V1 := by rw [← hV1]; exact Kept.alloc _ _ _
  have q0 : Bx V1 W.heap.size [.slice none 0 0, .slice none 0 0, .slice none 0 0, .slice none 0 0, .slice none 0 0] := by
    have := Bx.new W [.slice none 0 0, .slice none 0 0, .slice none 0 0, .slice none 0 0, .slice none 0 0] 28
    rw [hV0] at this
    exact this.kept k1 trivial
  have q1 : Bx V1 (W.heap.size + 1) (.slice none 0 0 :: .slice none 0 0 :: zeroM) := by
    have := Bx.new V0 (.slice none 0 0 :: .slice none 0 0 :: zeroM) 78
    rw [z0] at this
    have e : V0.alloc (.cells (.slice none 0 0 :: .slice none 0 0 :: zeroM).toArray 78) = V1 := hV1
    rw [e] at this
    exact this
  have h1 : BS (W.heap.size + 1) zeroM V1 0 0 .nil .nil none none 0 0 .nil .nil V1 := ⟨q1, ((Hp.nil _ _).empty 124 3).empty 43 5, trivial, trivial, Kept.refl _ _⟩
  obtain ⟨wb, hwb⟩ : ∃ wb, V1.alloc (.cells #[.string sFalse, .string ⟨#[]⟩, .int .i64 0, .int .i64 0, .slice none 0 0, .string sTrue, .string ⟨#[]⟩, .int .i64 0, .int .i64 0, .slice none 0 0] 43) = wb := ⟨_, rfl⟩
  have kb : Kept (fun _ => True) V1 wb := by rw [← hwb]; exact Kept.alloc _ _ _
  have cb : Bx wb (W.heap.size + 1 + 1) kB.vals := by
    have := Bx.new V1 kB.vals 43
    rw [z1] at this
    have e : V1.alloc (.cells kB.vals.toArray 43) = wb := hwb
    rw [e] at this
    exact this
  have hnn : ∀ W S, Fo.Subs W S kB := fun W S => ⟨⟨Nat.le_refl _, Nat.zero_le _, fun h => by simp [Fo.len] at h⟩, ⟨Nat.le_refl _, Nat.zero_le _, fun h => by simp [Fo.len] at h⟩, trivial⟩
  have HC1 := hide (bs_tell (h1.keep kb) sBool 0 2 (W.heap.size + 1 + 1) (some ⟨W.heap.size + 1 + 1, 0, none⟩) 2 kB kB (by omega) (by omega) (by omega) kB_fit (Fo.sim.refl _) cb.lt (fun _ => ⟨rfl, by omega, cb.cel_cells⟩)
    ((((h1.hp.more (b := W.heap.size + 1 + 1) (by omega)).keep kb).plain kB hnn rfl).perm (rot3 _ _ _).symm))
  have HWB : Hid ((((W.alloc (.cells #[.slice none 0 0, .slice none 0 0, .slice none 0 0, .slice none 0 0, .slice none 0 0] 28)).alloc (.cells #[.slice none 0 0, .slice none 0 0, .slice none 0 0, .slice none 0 0, .slice none 0 0, .map none, .map none, .map none, .map none, .map none, .map none, .slice none 0 0, .map none] 78)).alloc (.cells #[.string ⟨#[70, 97, 108, 115, 101]⟩, .string ⟨#[]⟩, .int .i64 0, .int .i64 0, .slice none 0 0, .string ⟨#[84, 114, 117, 101]⟩, .string ⟨#[]⟩, .int .i64 0, .int .i64 0, .slice none 0 0] 43)) = wb) := by unfold Hid; rw [hV0, hV1]; exact hwb
  have HQ0 := hide q0
  have HK01 : Hid (Below W.heap.size W V1) := (k0.trans k1).below (fun _ _ => trivial) (Nat.le_refl _)
  clear hV0 hV1 z0 z1 k0 k1 q0 q1 h1 hwb kb cb hnn
  go_enter Try.func8, Try.ntmps8
  go_wp2_with fail
  rw [HWB.out]
  clear HWB
  refine HC1.out.mono ?_
  rintro e w2 ⟨p1, c1, p2, c2, C1, D1, rfl, h2⟩
  clear HC1
  have HMW : Hid (W.heap.size + 1 < w2.heap.size) := h2.out.bm.lt
  obtain ⟨U, hU⟩ : ∃ U, (((((w2.alloc (.cells #[.int .i64 2, .int .i64 0, .string ⟨#[]⟩, .slice none 0 0] 66)).alloc (.cells #[.int .i64 2, .int .i64 0, .string ⟨#[]⟩, .slice none 0 0] 66)).alloc (.cells #[.int .i64 3, .int .i64 0, .string sList, .slice (some ⟨w2.heap.size + 1, 0, none⟩) 1 1] 66)).alloc (.cells #[.int .i64 2, .int .i64 0, .string ⟨#[]⟩, .slice none 0 0, .int .i64 3, .int .i64 0, .string sList, .slice (some ⟨w2.heap.size + 1, 0, none⟩) 1 1] 66)).alloc (.cells #[.string sList, .string ⟨#[]⟩, .int .i64 0, .int .i64 0, .slice none 0 0, .string sCons, .string ⟨#[]⟩, .int .i64 0, .int .i64 0, .slice (some ⟨w2.heap.size + 1 + 1 + 1, 0, none⟩) 2 2] 43)) = U := ⟨_, rfl⟩
  obtain ⟨ow, cl, ku, zu⟩ := kL_own w2 _ _ 43 U hU
  have hHp : Hp (fun c => c ≤ W.heap.size + 1 ∨ c = w2.heap.size + 1 + 1 + 1 + 1) [.fo (kL (some ⟨w2.heap.size + 1 + 1 + 1, 0, none⟩) (some ⟨w2.heap.size + 1, 0, none⟩) 2 1), .row 43 5 (.slice p1 (0 + 2) c1) (0 + 2) C1, .row 124 3 (.slice p2 (0 + 1) c2) (0 + 1) D1] U := by
    have hm := HMW.out
    refine (Hp.of_own (h2.out.hp.keep ku) ow (fun c hc hp => by omega) (fun c hc => h2.out.hp.lt hc)).mono (fun c hc hp hq => ?_)
    rcases hq with hq | hq
    · exact hp hq
    · rw [bls_cons] at hc
      rcases List.mem_append.1 hc with hc | hc
      · have hc' : c ∈ [w2.heap.size + 1 + 1 + 1, w2.heap.size + 1] := hc
        simp at hc'
        omega
      · have := h2.out.hp.lt hc
        omega
  have HC2 := hide (bs_tell (h2.out.keep ku) sList 1 2 (w2.heap.size + 1 + 1 + 1 + 1) (some ⟨w2.heap.size + 1 + 1 + 1 + 1, 0, none⟩) 2 _ _ (by omega) (by omega) (by omega) kL_fit (kL_sim _ _ _ _) (by omega) (fun _ => ⟨rfl, by have := HMW.out; omega, cl⟩) (hHp.perm (rot3 _ _ _).symm))
  have HU : Hid ((((((w2.alloc (.cells #[.int .i64 2, .int .i64 0, .string ⟨#[]⟩, .slice none 0 0] 66)).alloc (.cells #[.int .i64 2, .int .i64 0, .string ⟨#[]⟩, .slice none 0 0] 66)).alloc (.cells #[.int .i64 3, .int .i64 0, .string ⟨#[91, 93]⟩, .slice (some ⟨w2.heap.size + 1, 0, none⟩) 1 1] 66)).alloc (.cells #[.int .i64 2, .int .i64 0, .string ⟨#[]⟩, .slice none 0 0, .int .i64 3, .int .i64 0, .string ⟨#[91, 93]⟩, .slice (some ⟨w2.heap.size + 1, 0, none⟩) 1 1] 66)).alloc (.cells #[.string ⟨#[91, 93]⟩, .string ⟨#[]⟩, .int .i64 0, .int .i64 0, .slice none 0 0, .string ⟨#[58]⟩, .string ⟨#[]⟩, .int .i64 0, .int .i64 0, .slice (some ⟨w2.heap.size + 1 + 1 + 1, 0, none⟩) 2 2] 43)) = U) := hU
  clear hU ow cl ku zu hHp h2
  go_wp2_with fail
  rw [HU.out]
  clear HU
  refine HC2.out.mono ?_
  rintro e w3 ⟨p1, c1, p2, c2, C1, D1, rfl, h3⟩
  clear HC2
  have HC3 := hide (bs_none h3.out sInt 0 (by omega) (by omega))
  go_wp2_with fail
  refine HC3.out.mono ?_
  rintro e w4 ⟨p1, c1, p2, c2, C1, D1, rfl, h4⟩
  clear HC3 h3
  have HC4 := hide (bs_none h4.out sChar 0 (by omega) (by omega))
  go_wp2_with fail
  refine HC4.out.mono ?_
  rintro e w5 ⟨p1, c1, p2, c2, C1, D1, rfl, h5⟩
  clear HC4 h4
  have HC5 := hide (bs_none h5.out sArrow 2 (by omega) (by omega))
  go_wp2_with fail
  refine HC5.out.mono ?_
  rintro e w6 ⟨p1, c1, p2, c2, C1, D1, rfl, h6⟩
  clear HC5 h5
  have HC6 := hide (bs_tup h6.out 0 (by omega) (by omega) (by omega))
  go_wp2_with fail
  refine HC6.out.mono ?_
  rintro e w7 ⟨p1, c1, p2, c2, C1, D1, rfl, h7⟩
  clear HC6 h6
  have H7 : Hid (BS (W.heap.size + 1) zeroM V1 (2 + 3) (2 + 4) (ct 2) (dt 2) p1 p2 c1 c2 C1 D1 w7) := h7
  clear h7
  go_wp2_with fail
  go_loopw [4] (fun s4 wr => ∃ (i : Nat) (p1 p2 : Option Addr) (c1 c2 : Nat) (C D : Fo), s4 = .int .i64 i ∧ 2 ≤ i ∧ i ≤ 8 ∧ Hid (BS (W.heap.size + 1) zeroM V1 (i + 3) (i + 4) (ct i) (dt i) p1 p2 c1 c2 C D wr)) (fun s4 _ => 8 - (intOf s4).toNat)
  case atStart => exact ⟨2, _, _, _, _, _, _, rfl, by omega, by omega, H7⟩
  case round =>
    obtain ⟨i, p1, p2, c1, c2, C, D, rfl, h2i, hi8, hL⟩ := hrel
    by_cases hi : i ≤ 7
    · have hii : (i : Int) ≤ 7 := by omega
      have HC := hide (bs_tup hL.out i hi (by omega) (by omega))
      clear hL H7
      go_wp2_with fail
      refine HC.out.mono ?_
      rintro e w8 ⟨p1, c1, p2, c2, C1, D1, rfl, h8⟩
      have H8 : Hid (BS (W.heap.size + 1) zeroM V1 (i + 1 + 3) (i + 1 + 4) (ct (i + 1)) (dt (i + 1)) p1 p2 c1 c2 C1 D1 w8) := by
        unfold Hid
        rw [(ct_next i h2i).1, (ct_next i h2i).2]
        have e1 : i + 1 + 3 = i + 3 + 1 := by omega
        have e2 : i + 1 + 4 = i + 4 + 1 := by omega
        rw [e1, e2]
        exact h8
      clear h8 HC
      go_wp2_with fail
      go_roundw
      case rel => exact ⟨i + 1, _, _, _, _, _, _, by go_num, by omega, by omega, H8⟩
      case measure => simp [intOf]; omega
    · have hii : ¬ (i : Int) ≤ 7 := by omega
      have hi' : i = 8 := by omega
      subst hi'
      have HL := hide hL.out
      have q0 := HQ0.out.kept HL.out.kp (show W.heap.size < W.heap.size + 1 by omega)
      have m0 := q0.cel 0 _ rfl
      have m1 := q0.cel 1 _ rfl
      have m2 := q0.cel 2 _ rfl
      have m3 := q0.cel 3 _ rfl
      have m4 := q0.cel 4 _ rfl
      have l0 := q0.live 0
      have l1 := q0.live 1
      have l2 := q0.live 2
      have l3 := q0.live 3
      have l4 := q0.live 4
      have r0 := hL.out.bm.cel 0 _ rfl
      have r1 := hL.out.bm.cel 1 _ rfl
      have r2 := hL.out.bm.cel 2 _ rfl
      have r3 := hL.out.bm.cel 3 _ rfl
      have r4 := hL.out.bm.cel 4 _ rfl
      clear q0 H7 hL
      go_wp2_with fail
      refine bodyPost_ret (v := .agg #[.slice p1 11 c1, .slice p2 12 c2, .slice none 0 0, .slice none 0 0, .slice none 0 0]) (by simp [results, Try.results8, go_sem, m0, m1, m2, m3, m4]) rfl ⟨.s p1 11 c1 C (.s p2 12 c2 D (.s none 0 0 .nil (.s none 0 0 .nil (.s none 0 0 .nil .nil)))), rfl, ?_, ?_⟩
      · exact ⟨rfl, HL.out.sc, rfl, HL.out.sd, rfl, trivial, rfl, trivial, rfl, trivial, trivial⟩
      · refine (fun (V : World) (kV : Kept (fun c => c ≠ W.heap.size) wr V) => (?_ : Below W.heap.size W V ∧ Own W.heap.size V (.s p1 11 c1 C (.s p2 12 c2 D (.s none 0 0 .nil (.s none 0 0 .nil (.s none 0 0 .nil .nil))))))) _ ?_
        · refine ⟨Below.kept (Below.kept HK01.out HL.out.kp (fun c hc => by omega) (Nat.le_refl _)) kV (fun c hc => by omega) (Nat.le_refl _), ?_⟩
          obtain ⟨a1, b1, e1, h1⟩ := HL.out.hp.shut
          cases e1
          obtain ⟨a2, b2, e2, h2⟩ := (h1.perm (perm_b _ _ _)).shut
          cases e2
          have hn : ∀ W S, Fo.Subs W S (.s none 0 0 .nil (.s none 0 0 .nil (.s none 0 0 .nil .nil))) := fun W S => ⟨⟨Nat.le_refl _, Nat.zero_le _, fun h => by simp [Fo.len] at h⟩, ⟨Nat.le_refl _, Nat.zero_le _, fun h => by simp [Fo.len] at h⟩, ⟨Nat.le_refl _, Nat.zero_le _, fun h => by simp [Fo.len] at h⟩, trivial⟩
          have h3 := ((h2.perm (perm_b _ _ _)).app).perm (List.Perm.refl _)
          have h4 := ((h3.plain (.s none 0 0 .nil (.s none 0 0 .nil (.s none 0 0 .nil .nil))) hn rfl).perm (perm_b _ _ _)).app
          exact ((h4.kept kV (fun c hc e => h4.fr c hc (by omega))).own (fun c hc => by omega))
        · repeat first | (with_reducible refine Kept.set ?_ (by simp)) | with_reducible exact Kept.refl _ _

end Go.Proofs.Ytkjbkmhmghmodaa
