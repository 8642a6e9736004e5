import Derived.Test.YtkjbkmhmghmodaaBk
namespace Go.Proofs.Ytkjbkmhmghmodaa
open Go.RowKit Go.Joins

def z3 : List Value := [.slice none 0 0, .slice none 0 0, .slice none 0 0]

/-- A constructor without fields, a box kept. -/
theorem m_con0 {P : Nat → Prop} {M : Nat} {Lr : List Value} {V0 V : World} {nc nd : Nat} {Cx Dx : Fo} {nm : ByteArray} {vars : Int} {k : Nat} {N : Fo} {pc pd na : Option Addr} {qc qd ncap : Nat} {C D : Fo} (h : MO P M Lr V0 nc nd Cx Dx nm vars k N pc pd na qc qd ncap C D V) (x : ByteArray) (hnc : nc ≤ 1000) (hk : k ≤ 1000) (hnd : nd ≤ 1000) :
    Calls Try.prog 30 #[.agg #[.pointer (some ⟨M, 0, none⟩), .int .i64 nd], .string x, .slice none 0 0] V fun e V' => ∃ pc' qc' na' ncap' C', e = .returned (.tuple #[]) ∧ Hid (MO P M Lr V (nc + 1) nd (Cx.app (con5 x nm k vars none 0 0 .nil)) Dx nm vars (k + 1) (N.app (.v (.string x) .nil)) pc' pd na' qc' qd ncap' C' D V') :=
  m_con (h.keep (Kept.refl _ _)) x none 0 0 .nil .nil trivial ((h.hp.plain (.s none 0 0 .nil .nil) (fun _ _ => ⟨⟨Nat.le_refl _, Nat.zero_le _, fun h => by simp [Fo.len] at h⟩, trivial⟩) rfl).perm (rot4 _ _ _ _).symm) hnc hk hnd

theorem MO.base {P : Nat → Prop} {M : Nat} {Lr : List Value} {V0 A : World} {nc nd : Nat} {Cx Dx : Fo} {nm : ByteArray} {vars : Int} {k : Nat} {N : Fo} {pc pd na : Option Addr} {qc qd ncap : Nat} {C D : Fo} {V : World} (h : MO P M Lr V0 nc nd Cx Dx nm vars k N pc pd na qc qd ncap C D V) (kA : Kept (fun c => P c ∧ c ≠ M) A V0) :
    MO P M Lr A nc nd Cx Dx nm vars k N pc pd na qc qd ncap C D V := { h with kp := kA.trans h.kp }

def cxA : Fo := (told sBool 0 0 kB).app (told sList 1 0 (con0 sList))
def dxA : Fo := dat sBool 0 2 (names kB)

/-- The list's second constructor. -/
theorem m_conL {P : Nat → Prop} {M : Nat} {V0 V w6 w7 : World} {pc pd na : Option Addr} {qc qd ncap : Nat} {C D : Fo} (h : MO P M z3 V0 3 1 cxA dxA sList 1 1 (.v (.string sList) .nil) pc pd na qc qd ncap C D V) (la : Option Addr) (lc : Nat) (k6 : Kept (fun _ => True) V w6) (b7 : Below w6.heap.size w6 w7) (o7 : Own w6.heap.size w7 (.s la 1 lc (gen1 0) .nil)) :
    Calls Try.prog 30 #[.agg #[.pointer (some ⟨M, 0, none⟩), .int .i64 1], .string sCons, .slice (some ⟨w7.heap.size, 0, none⟩) 2 2] (w7.alloc (.cells #[.int .i64 2, .int .i64 0, .string ⟨#[]⟩, .slice none 0 0, .int .i64 3, .int .i64 0, .string sList, .slice la 1 lc] 66)) fun e V' => ∃ pc' qc' na' ncap' C', e = .returned (.tuple #[]) ∧ Hid (MO P M z3 V 4 1 cx1 dxA sList 1 2 (.v (.string sList) (.v (.string sCons) .nil)) pc' pd na' qc' qd ncap' C' D V') := by
  have k7 : Kept (fun _ => True) V w7 := k6.trans (kt b7)
  have z7 := b7.size
  have z6 := k6.size
  have hP : ∀ c, P c → c < w7.heap.size := fun c hc => by have := h.pl c hc; omega
  have h1 : Hp P [.fo (.s la 1 lc (gen1 0) .nil), .row 43 5 (.slice pc 3 qc) 3 C, .row 124 3 (.slice pd (1 + 1) qd) (1 + 1) (D.app (.v (.string sList) (.v (.int .i64 1) (.v (.slice na 1 ncap) .nil)))), .row 9 1 (.slice na 1 ncap) 1 (.v (.string sList) .nil)] w7 :=
    (h.hp.keep k7).of_own o7 (fun c hc hp => by have := h.pl c hp; omega) (fun c hc => by have := h.hp.lt hc; omega)
  have h2 := Hp.v (.int .i64 3) (Hp.v (.int .i64 0) (Hp.v (.string sList) h1))
  have h3 := (h2.plain (gen1 0) (gen1_subs 0) rfl).app
  have h4 := h3.build 66 4 2 hP rfl (by unfold maxLen; omega)
  obtain ⟨a, c, e, h5⟩ := h4.shut
  cases e
  have ku : Kept (fun _ => True) w7 (w7.alloc (.cells #[.int .i64 2, .int .i64 0, .string ⟨#[]⟩, .slice none 0 0, .int .i64 3, .int .i64 0, .string sList, .slice la 1 lc] 66)) := Kept.alloc _ _ _
  refine (m_con ((h.keep (k7.trans ku)).base ((k7.trans ku).mono (fun _ _ _ => trivial))) sCons (some ⟨w7.heap.size, 0, none⟩) 2 2 _ (kLs none 0) ?_ (h5.perm (rot4 _ _ _ _).symm) (by omega) (by omega) (by omega)).mono ?_
  · exact ⟨rfl, rfl, rfl, rfl, trivial, rfl, rfl, rfl, rfl, Fo.sim.refl _, trivial⟩
  · rintro e V' ⟨pc', qc', na', ncap', C', rfl, hh⟩
    exact ⟨pc', qc', na', ncap', C', rfl, hh⟩

set_option maxHeartbeats 8000000 in
set_option maxRecDepth 100000 in
theorem m_Builtins (W : World) : Calls Try.prog 7 #[] W fun e W' => ∃ R : Fo, e = .returned (.agg R.vals.toArray) ∧ R.sim ansB ∧ Below W.heap.size W W' ∧ R.Subs W' (fun c => c < W'.heap.size) := by
  obtain ⟨V0, hV0⟩ : ∃ V0, W.alloc (.cells #[.slice none 0 0, .slice none 0 0, .slice none 0 0, .slice none 0 0, .slice none 0 0] 28) = V0 := ⟨_, rfl⟩
  obtain ⟨V1, hV1⟩ : ∃ V1, V0.alloc (.cells #[.slice none 0 0, .slice none 0 0, .slice none 0 0, .slice none 0 0, .slice none 0 0] 28) = V1 := ⟨_, rfl⟩
  have z0 : V0.heap.size = W.heap.size + 1 := by rw [← hV0]; simp
  have z1 : V1.heap.size = W.heap.size + 1 + 1 := by rw [← hV1, World.size_alloc, z0]
  have k0 : Kept (fun _ => True) W V0 := by rw [← hV0]; exact Kept.alloc _ _ _
  have k1 : Kept (fun _ => True) V0 V1 := by rw [← hV1]; exact Kept.alloc _ _ _
  have q0 : Bx V1 W.heap.size [.slice none 0 0, .slice none 0 0, .slice none 0 0, .slice none 0 0, .slice none 0 0] := by
    have := Bx.new W [.slice none 0 0, .slice none 0 0, .slice none 0 0, .slice none 0 0, .slice none 0 0] 28
    rw [hV0] at this
    exact this.kept k1 trivial
  have q1 : Bx V1 (W.heap.size + 1) (.slice none 0 0 :: .slice none 0 0 :: z3) := by
    have := Bx.new V0 (.slice none 0 0 :: .slice none 0 0 :: z3) 28
    rw [z0] at this
    have e : V0.alloc (.cells (.slice none 0 0 :: .slice none 0 0 :: z3).toArray 28) = V1 := hV1
    rw [e] at this
    exact this
  have h1 : MP (fun c => c ≤ W.heap.size + 1) (W.heap.size + 1) z3 V1 0 0 .nil .nil none none 0 0 .nil .nil V1 := ⟨q1, ((Hp.nil _ _).empty 124 3).empty 43 5, trivial, trivial, rfl, Kept.refl _ _, Nat.le_refl _, fun c hc => by omega⟩
  have HC1 := hide (m_more h1 sBool 0 (by omega))
  have HV1 : Hid (((W.alloc (.cells #[.slice none 0 0, .slice none 0 0, .slice none 0 0, .slice none 0 0, .slice none 0 0] 28)).alloc (.cells #[.slice none 0 0, .slice none 0 0, .slice none 0 0, .slice none 0 0, .slice none 0 0] 28)) = V1) := by unfold Hid; rw [hV0, hV1]
  have HQ0 := hide q0
  have HK01 : Hid (Below W.heap.size W V1) := (k0.trans k1).below (fun _ _ => trivial) (Nat.le_refl _)
  clear hV0 hV1 z0 z1 k0 k1 q0 q1 h1
  go_enter Try.func7, Try.ntmps7
  go_wp2_with fail
  rw [HV1.out]
  clear HV1
  refine HC1.out.mono ?_
  rintro e w1 ⟨pd1, qd1, rfl, h2⟩
  clear HC1
  obtain ⟨u1, hu1⟩ : ∃ u1, w1.alloc (.cells #[.pointer (some ⟨W.heap.size + 1, 0, none⟩), .int .i64 ((0 : Nat) : Int)] 62) = u1 := ⟨_, rfl⟩
  have ku1 : Kept (fun _ => True) w1 u1 := by rw [← hu1]; exact Kept.alloc _ _ _
  have bu1 : Bx u1 w1.heap.size [.pointer (some ⟨W.heap.size + 1, 0, none⟩), .int .i64 0] := by rw [← hu1]; exact Bx.new _ _ _
  have h3 := h2.out.guard ku1 (Nat.le_refl _) bu1.lt
  have hMT : W.heap.size + 1 ≠ w1.heap.size := by have := h2.out.bm.lt; omega
  have HK1 : Hid (Kept (fun c => c ≤ W.heap.size) V1 u1) := (h2.out.kp.mono (fun c _ hc => ⟨by omega, by omega⟩)).trans (ku1.mono (fun _ _ _ => trivial))
  have HC2 := hide (m_con0 h3 sFalse (by omega) (by omega) (by omega))
  have HBU := hide bu1
  have HU1 : Hid (w1.alloc (.cells #[.pointer (some ⟨W.heap.size + 1, 0, none⟩), .int .i64 0] 62) = u1) := hu1
  have t0 : u1.cell? ⟨w1.heap.size, 0, none⟩ = some (.pointer (some ⟨W.heap.size + 1, 0, none⟩)) := bu1.cel 0 _ rfl
  have t1 : u1.cell? ⟨w1.heap.size, 1, none⟩ = some (.int .i64 0) := bu1.cel 1 _ rfl
  have HMT := hide hMT
  clear hu1 ku1 bu1 h3 h2 hMT
  go_upto_region 3 with fail
  rw [HU1.out]
  clear HU1
  go_wp2_with fail
  refine HC2.out.mono ?_
  rintro e w2 ⟨pc2, qc2, na2, cc2, C2, rfl, h4⟩
  clear HC2 t0 t1
  have HBU2 := hide (HBU.out.kept h4.out.kp ⟨.inr rfl, fun e => HMT.out e.symm⟩)
  have HK2 : Hid (Kept (fun c => c ≤ W.heap.size) V1 w2) := HK1.out.trans (h4.out.kp.mono (fun c _ hc => ⟨.inl (by omega), by omega⟩))
  have t0 : w2.cell? ⟨w1.heap.size, 0, none⟩ = some (.pointer (some ⟨W.heap.size + 1, 0, none⟩)) := HBU2.out.cel 0 _ rfl
  have t1 : w2.cell? ⟨w1.heap.size, 1, none⟩ = some (.int .i64 0) := HBU2.out.cel 1 _ rfl
  have HC3 := hide (m_con0 h4.out sTrue (by omega) (by omega) (by omega))
  clear h4 HBU HK1
  go_wp2_with fail
  refine HC3.out.mono ?_
  rintro e w3 ⟨pc3, qc3, na3, cc3, C3, rfl, h5⟩
  clear HC3 t0 t1
  have HK3 : Hid (Kept (fun c => c ≤ W.heap.size) V1 w3) := HK2.out.trans (h5.out.kp.mono (fun c _ hc => ⟨.inl (by omega), by omega⟩))
  have h6 := (h5.out.close.less (Q := fun c => c ≤ W.heap.size + 1) (fun c hc => .inl hc) (Nat.le_refl _)).keep (Kept.refl _ _)
  have HC4 := hide (m_more h6 sList 1 (by omega))
  clear h5 h6 HBU2 HK2 HMT
  go_wp2_with fail
  refine HC4.out.mono ?_
  rintro e w4 ⟨pd4, qd4, rfl, h7⟩
  clear HC4
  obtain ⟨u4, hu4⟩ : ∃ u4, w4.alloc (.cells #[.pointer (some ⟨W.heap.size + 1, 0, none⟩), .int .i64 ((0 + 1 : Nat) : Int)] 62) = u4 := ⟨_, rfl⟩
  have ku4 : Kept (fun _ => True) w4 u4 := by rw [← hu4]; exact Kept.alloc _ _ _
  have bu4 : Bx u4 w4.heap.size [.pointer (some ⟨W.heap.size + 1, 0, none⟩), .int .i64 1] := by rw [← hu4]; exact Bx.new _ _ _
  have h8 := h7.out.guard ku4 (Nat.le_refl _) bu4.lt
  have hMT : W.heap.size + 1 ≠ w4.heap.size := by have := h7.out.bm.lt; omega
  have HK4 : Hid (Kept (fun c => c ≤ W.heap.size) V1 u4) := (HK3.out.trans (h7.out.kp.mono (fun c _ hc => ⟨by omega, by omega⟩))).trans (ku4.mono (fun _ _ _ => trivial))
  have HC5 := hide (m_con0 h8 sList (by omega) (by omega) (by omega))
  have HBU := hide bu4
  have HU4 : Hid (w4.alloc (.cells #[.pointer (some ⟨W.heap.size + 1, 0, none⟩), .int .i64 1] 62) = u4) := hu4
  have t0 : u4.cell? ⟨w4.heap.size, 0, none⟩ = some (.pointer (some ⟨W.heap.size + 1, 0, none⟩)) := bu4.cel 0 _ rfl
  have t1 : u4.cell? ⟨w4.heap.size, 1, none⟩ = some (.int .i64 1) := bu4.cel 1 _ rfl
  have HMT := hide hMT
  clear hu4 ku4 bu4 h8 h7 hMT HK3
  go_upto_region 6 with fail
  rw [HU4.out]
  clear HU4
  go_wp2_with fail
  refine HC5.out.mono ?_
  rintro e w5 ⟨pc5, qc5, na5, cc5, C5, rfl, h9⟩
  clear HC5 t0 t1
  have HBU5 := hide (HBU.out.kept h9.out.kp ⟨.inr rfl, fun e => HMT.out e.symm⟩)
  have HK5 : Hid (Kept (fun c => c ≤ W.heap.size) V1 w5) := HK4.out.trans (h9.out.kp.mono (fun c _ hc => ⟨.inl (by omega), by omega⟩))
  have H9 := hide h9.out
  clear h9 HBU HK4
  obtain ⟨D5, H9'⟩ : ∃ D5, Hid (MO (fun c => c ≤ W.heap.size + 1 ∨ c = w4.heap.size) (W.heap.size + 1) z3 u4 3 1 cxA dxA sList 1 1 (.v (.string sList) .nil) pc5 pd4 na5 qc5 qd4 cc5 C5 D5 w5) := ⟨_, H9⟩
  have HSQ : Hid (∀ V, Kept (fun _ => True) w5 V → V.cell? ⟨w4.heap.size, 0, none⟩ = some (.pointer (some ⟨W.heap.size + 1, 0, none⟩)) ∧ V.cell? ⟨w4.heap.size, 1, none⟩ = some (.int .i64 1)) := fun V kV => by
    have q := HBU5.out.kept kV trivial
    exact ⟨q.cel 0 _ rfl, q.cel 1 _ rfl⟩
  have HSR : Hid (∀ V, Kept (fun c => (c ≤ W.heap.size + 1 ∨ c = w4.heap.size) ∧ c ≠ W.heap.size + 1) w5 V → V.cell? ⟨w4.heap.size, 0, none⟩ = some (.pointer (some ⟨W.heap.size + 1, 0, none⟩)) ∧ V.cell? ⟨w4.heap.size, 1, none⟩ = some (.int .i64 1)) := fun V kV => by
    have q := HBU5.out.kept kV ⟨.inr rfl, fun e => HMT.out e.symm⟩
    exact ⟨q.cel 0 _ rfl, q.cel 1 _ rfl⟩
  have k0' := HSQ.out w5.drew (Kept.refl _ _).dr
  clear H9
  go_upto_region 7 with fail
  go_cut [] (fun wy => ∃ (pc na : Option Addr) (qc ncap : Nat) (C : Fo), Hid (MO (fun c => c ≤ W.heap.size + 1 ∨ c = w4.heap.size) (W.heap.size + 1) z3 w5 4 1 cx1 dxA sList 1 2 (.v (.string sList) (.v (.string sCons) .nil)) pc pd4 na qc qd4 ncap C D5 wy))
  case first =>
    go_region_held3 (fun V => V.cell? ⟨w4.heap.size, 0, none⟩ = some (.pointer (some ⟨W.heap.size + 1, 0, none⟩)) ∧ V.cell? ⟨w4.heap.size, 1, none⟩ = some (.int .i64 1))
      (first | with_reducible exact S8 | with_reducible exact S7 | with_reducible exact S6 | with_reducible exact k0' | with_reducible exact HSQ.out _ HK7.out.al)
      (first
        | (go_at_call 31; refine (m_gen 0 _).mono ?_; rintro e w6 ⟨rfl, b6⟩; have HK6 : Hid (Kept (fun _ => True) w5 w6) := Kept.trans (by first | with_reducible exact HK6.out | with_reducible exact (Kept.refl _ _).dr) (kt b6); have S6 := HSQ.out w6 HK6.out; clear b6)
        | (go_at_call 32; refine (m_list w6).mono ?_; rintro e w7 ⟨la, lc, rfl, b7, o7⟩; have HK7 : Hid (Kept (fun _ => True) w5 w7) := HK6.out.trans (kt b7); have S7 := HSQ.out w7 HK7.out; have HB7 := hide b7; have HO7 := hide o7; clear b7 o7)
        | (go_at_call 30; refine (m_conL H9'.out la lc HK6.out HB7.out HO7.out).mono ?_; rintro e w8 ⟨pc8, qc8, na8, cc8, C8, rfl, h8⟩; have S8 := HSR.out w8 h8.out.kp))
    all_goals
      go_wp2_with fail
      go_meet
      case rel => exact ⟨_, _, _, _, _, h8⟩
  case rest =>
    obtain ⟨pcy, nay, qcy, ccy, Cy, hy⟩ := hcut
    rename World => wy
    have HKY : Hid (Kept (fun c => c ≤ W.heap.size) V1 wy) := HK5.out.trans (hy.out.kp.mono (fun c _ hc => ⟨.inl (by omega), by omega⟩))
    have HC8 := hide (m_more ((hy.out.close.less (Q := fun c => c ≤ W.heap.size + 1) (fun c hc => .inl hc) (Nat.le_refl _)).keep (Kept.refl _ _)) sInt 0 (by omega))
    clear hy H9' HSQ HSR k0' HBU5 HMT HK5
    go_wp2_with fail
    refine HC8.out.mono ?_
    rintro e w8 ⟨pd8, qd8, rfl, h8⟩
    clear HC8
    have HK8 : Hid (Kept (fun c => c ≤ W.heap.size) V1 w8) := HKY.out.trans (h8.out.kp.mono (fun c _ hc => ⟨by omega, by omega⟩))
    have HC9 := hide (m_more (h8.out.close.keep (Kept.refl _ _)) sChar 0 (by omega))
    clear h8 HKY
    go_wp2_with fail
    refine HC9.out.mono ?_
    rintro e w9 ⟨pd9, qd9, rfl, h9⟩
    clear HC9
    have HK9 : Hid (Kept (fun c => c ≤ W.heap.size) V1 w9) := HK8.out.trans (h9.out.kp.mono (fun c _ hc => ⟨by omega, by omega⟩))
    have HCA := hide (m_more (h9.out.close.keep (Kept.refl _ _)) sArrow 2 (by omega))
    clear h9 HK8
    go_wp2_with fail
    refine HCA.out.mono ?_
    rintro e wA ⟨pdA, qdA, rfl, hA⟩
    clear HCA
    have HKA : Hid (Kept (fun c => c ≤ W.heap.size) V1 wA) := HK9.out.trans (hA.out.kp.mono (fun c _ hc => ⟨by omega, by omega⟩))
    obtain ⟨DA, HA⟩ : ∃ DA, Hid (MP (fun c => c ≤ W.heap.size + 1) (W.heap.size + 1) z3 wA (ncf 0) (ndf 0) (ct 0) (dt 0) pcy pdA qcy qdA Cy DA wA) := ⟨_, hA.out.close.keep (Kept.refl _ _)⟩
    clear hA HK9
    go_wp2_with fail
    go_loopw [4] (fun s4 wr => ∃ (i : Nat) (pc pd : Option Addr) (qc qd : Nat) (C D : Fo), s4 = .int .i64 i ∧ i ≤ 8 ∧ Hid (MP (fun c => c ≤ W.heap.size + 1) (W.heap.size + 1) z3 wr (ncf i) (ndf i) (ct i) (dt i) pc pd qc qd C D wr) ∧ Hid (Kept (fun c => c ≤ W.heap.size) V1 wr)) (fun s4 _ => 8 - (intOf s4).toNat)
    case atStart => exact ⟨0, _, _, _, _, _, _, rfl, by omega, HA, HKA⟩
    case round =>
      obtain ⟨i, pc, pd, qc, qd, C, D, rfl, hi8, hL, hKL⟩ := hrel
      clear HA HKA
      by_cases hi : i ≤ 7
      · have hii : (i : Int) ≤ 7 := by omega
        by_cases hi1 : i = 1
        · subst hi1
          have H2 : Hid (MP (fun c => c ≤ W.heap.size + 1) (W.heap.size + 1) z3 wr (ncf 2) (ndf 2) (ct 2) (dt 2) pc pd qc qd C D wr) := hL
          clear hL
          go_wp2_with fail
          go_roundw
          case rel => exact ⟨2, _, _, _, _, _, _, by go_num, by omega, H2, hKL⟩
          case measure => simp [intOf]
        · have hne : ((i : Int) == 1) = false := by rw [beq_eq_false_iff_ne]; omega
          obtain ⟨e1, e2, e3, e4⟩ := step_ct i hi1
          obtain ⟨l1, l2⟩ := ncf_le i hi8
          generalize hnc : ncf i = nc at hL e3 l1
          generalize hnd : ndf i = nd at hL e4 l2
          have HE := hide (And.intro e1 (And.intro e2 (And.intro e3 e4)))
          clear e1 e2 e3 e4 hnc hnd
          have HF : Hid (FI (fun c => c ≤ W.heap.size + 1) (W.heap.size + 1) z3 wr nc nd (ct i) (dt i) pc pd qc qd C D wr.heap.size 0 0 (wr.alloc (.cells #[] 66))) := FI.start hL.out
          clear hL
          go_wp2_with fail
          go_loopw [5, 6] (fun s5 s6 wq => ∃ (j g cap : Nat), s5 = .slice (some ⟨g, 0, none⟩) j cap ∧ s6 = .int .i64 j ∧ j ≤ i ∧ Hid (FI (fun c => c ≤ W.heap.size + 1) (W.heap.size + 1) z3 wr nc nd (ct i) (dt i) pc pd qc qd C D g j cap wq)) (fun _ s6 _ => i - (intOf s6).toNat)
          case atStart => exact ⟨0, _, 0, rfl, rfl, Nat.zero_le _, HF⟩
          case round =>
            obtain ⟨j, g, cap, rfl, rfl, hj, hI⟩ := hrel
            by_cases hji : j < i
            · have hjj : (j : Int) < i := by omega
              have HCG := hide (m_gen (j : Int) wr)
              have HN9 : Hid (∀ Wc, Kept (fun _ => True) wr Wc → Wc.ownsRow 0 66 4 (.slice (some ⟨g, 0, none⟩) j cap) j (gens j).vals) := fun Wc k => ownsRow_kept (hI.out.hp.ok _ List.mem_cons_self).1 k (fun _ _ => trivial)
              have h63 : Hid (j + 1 ≤ maxLen ∧ (j + 1) * 56 ≤ 140737488355328) := ⟨by unfold maxLen; omega, by omega⟩
              have HST : Hid (∀ wc w3 g' cap', Kept (fun _ => True) wr wc → wc.grownBy w3 (some g) → w3.ownsRow 0 66 4 (.slice (some ⟨g', 0, none⟩) (j + 1) cap') (j + 1) ((gens j).vals ++ [.int .i64 2, .int .i64 j, .string ⟨#[]⟩, .slice none 0 0]) → ((some g : Option Nat) = some g' ∨ g' = wc.heap.size) → _) := fun wc w3 g' cap' k hG hO hat => FI.step hI.out k hG hO hat
              clear hI HF
              go_wp2_with fail
              refine HCG.out.mono ?_
              rintro e w6 ⟨rfl, b6⟩
              have HK6 : Hid (Kept (fun _ => True) wr w6) := kt b6
              clear b6 HCG
              go_wp2_with (at_builtin; refine ur_stepL rfl _ _ 41 66 rfl Try.info66 Try.underlying41 rfl (by decide) 0 (w6.alloc (.cells #[.int .i64 2, .int .i64 j, .string ⟨#[]⟩, .slice none 0 0] 66)) (.slice (some ⟨g, 0, none⟩) j cap) j (gens j).vals [.int .i64 2, .int .i64 j, .string ⟨#[]⟩, .slice none 0 0] _ _ rfl rfl (Nat.zero_le _) (HN9.out _ HK6.out.al) (heap_new _ _) rfl (by simp [Value.oneCell']) h63.out.1 h63.out.2 ?_; intro g7 c7 w3 hO7 hG7 hat7; have HA7 := hide (HST.out _ w3 g7 c7 HK6.out.al hG7 hO7 hat7); clear hO7 hG7 hat7)
              go_roundw
              case rel => exact ⟨j + 1, _, _, rfl, by go_num, by omega, HA7⟩
              case measure => simp [intOf]; omega
            · have hjj : ¬ (j : Int) < i := by omega
              have hji' : j = i := by omega
              subst hji'
              have HT1 := hide (m_tuple j wr hi)
              have HM1 := hide (FI.more hI.out (tupS j) (j : Int) (by omega))
              clear hI HF
              go_wp2_with fail
              refine HT1.out.mono ?_
              rintro e w6 ⟨rfl, hw6⟩
              subst hw6
              go_wp2_with fail
              refine HM1.out.mono ?_
              rintro e w7 ⟨pd7, qd7, rfl, h7⟩
              clear HM1 HT1
              have HT2 := hide (m_tuple j w7 hi)
              have HK7 : Hid (Kept (fun c => c ≤ W.heap.size) V1 w7) := hKL.out.trans (h7.out.1.kp.mono (fun c _ hc => ⟨by omega, by omega⟩))
              have HC7 := hide (m_con (h7.out.1.keep (Kept.refl _ _)) (tupS j) (some ⟨g, 0, none⟩) j cap (gens j) (gens j) (Fo.sim.refl _) h7.out.2 (by omega) (by omega) (by omega))
              clear h7 hKL
              go_wp2_with fail
              refine HT2.out.mono ?_
              rintro e w8 ⟨rfl, hw8⟩
              subst hw8
              go_wp2_with fail
              refine HC7.out.mono ?_
              rintro e w9 ⟨pc9, qc9, na9, cc9, C9, rfl, h9⟩
              clear HC7 HT2
              have HK9 : Hid (Kept (fun c => c ≤ W.heap.size) V1 w9) := HK7.out.trans (h9.out.kp.mono (fun c _ hc => ⟨by omega, by omega⟩))
              obtain ⟨D9, H9⟩ : ∃ D9, Hid (MP (fun c => c ≤ W.heap.size + 1) (W.heap.size + 1) z3 w9 (ncf (j + 1)) (ndf (j + 1)) (ct (j + 1)) (dt (j + 1)) pc9 pd7 qc9 qd7 C9 D9 w9) := by
                obtain ⟨e1, e2, e3, e4⟩ := HE.out
                rw [e1, e2, e3, e4]
                exact ⟨_, h9.out.close.keep (Kept.refl _ _)⟩
              clear h9 HK7
              go_wp2_with fail
              go_roundw
              case rel => exact ⟨j + 1, _, _, _, _, _, _, by go_num, by omega, H9, HK9⟩
              case measure => simp [intOf]; omega
      · have hii : ¬ (i : Int) ≤ 7 := by omega
        have hi' : i = 8 := by omega
        subst hi'
        have HL := hide hL.out
        have q0 := HQ0.out.kept hKL.out (Nat.le_refl _)
        have m0 := q0.cel 0 _ rfl
        have m1 := q0.cel 1 _ rfl
        have m2 := q0.cel 2 _ rfl
        have m3 := q0.cel 3 _ rfl
        have m4 := q0.cel 4 _ rfl
        have l0 := q0.live 0
        have l1 := q0.live 1
        have l2 := q0.live 2
        have l3 := q0.live 3
        have l4 := q0.live 4
        have r0 : wr.cell? ⟨W.heap.size + 1, 0, none⟩ = some (.slice pc 11 qc) := hL.out.bm.cel 0 _ rfl
        have r1 : wr.cell? ⟨W.heap.size + 1, 1, none⟩ = some (.slice pd 12 qd) := hL.out.bm.cel 1 _ rfl
        have r2 := hL.out.bm.cel 2 _ rfl
        have r3 := hL.out.bm.cel 3 _ rfl
        have r4 := hL.out.bm.cel 4 _ rfl
        clear q0 hL
        go_wp2_with fail
        refine bodyPost_ret (v := .agg #[.slice pc 11 qc, .slice pd 12 qd, .slice none 0 0, .slice none 0 0, .slice none 0 0]) (by simp [results, Try.results7, go_sem, m0, m1, m2, m3, m4]) rfl ⟨.s pc 11 qc C (.s pd 12 qd D (.s none 0 0 .nil (.s none 0 0 .nil (.s none 0 0 .nil .nil)))), rfl, ?_, ?_⟩
        · exact ⟨rfl, HL.out.sc, rfl, HL.out.sd, rfl, trivial, rfl, trivial, rfl, trivial, trivial⟩
        · refine (fun (V : World) (kV : Kept (fun c => c ≠ W.heap.size) wr V) => (?_ : Below W.heap.size W V ∧ Fo.Subs V (fun c => c < V.heap.size) (.s pc 11 qc C (.s pd 12 qd D (.s none 0 0 .nil (.s none 0 0 .nil (.s none 0 0 .nil .nil))))))) _ ?_
          · refine ⟨Below.kept (Below.kept HK01.out hKL.out (fun c hc => by omega) (Nat.le_refl _)) kV (fun c hc => by omega) (Nat.le_refl _), ?_⟩
            have hhp : Hp (fun c => c ≤ W.heap.size + 1) [.row 43 5 (.slice pc 11 qc) 11 C, .row 124 3 (.slice pd 12 qd) 12 D] wr := HL.out.hp
            obtain ⟨a1, b1, e1, h1⟩ := hhp.shut
            cases e1
            obtain ⟨a2, b2, e2, h2⟩ := (h1.perm (perm_b _ _ _)).shut
            cases e2
            have hn : ∀ W S, Fo.Subs W S (.s none 0 0 .nil (.s none 0 0 .nil (.s none 0 0 .nil .nil))) := fun W S => ⟨⟨Nat.le_refl _, Nat.zero_le _, fun h => by simp [Fo.len] at h⟩, ⟨Nat.le_refl _, Nat.zero_le _, fun h => by simp [Fo.len] at h⟩, ⟨Nat.le_refl _, Nat.zero_le _, fun h => by simp [Fo.len] at h⟩, trivial⟩
            have h3 := (h2.perm (perm_b _ _ _)).app
            have h4 := ((h3.plain (.s none 0 0 .nil (.s none 0 0 .nil (.s none 0 0 .nil .nil))) hn rfl).perm (perm_b _ _ _)).app
            have h5 := h4.kept kV (fun c hc e => h4.fr c hc (by omega))
            exact (h5.ok _ List.mem_cons_self).1
          · repeat first | (with_reducible refine Kept.set ?_ (by simp)) | with_reducible exact Kept.refl _ _

end Go.Proofs.Ytkjbkmhmghmodaa
