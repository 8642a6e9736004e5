import Derived.Test.YtmnligaelihmiaaGd
namespace Go.Proofs.Ytmnligaelihmiaa
open Go.RowKit Go.Joins
theorem Try.info3 : (Try.prog.info? 3).map (fun i => (i.zero, i.size, i.bytes)) = some (some (.int .i64 0), 1, 8) := by kernel_rfl
theorem set4_same {A : World} {V y : Nat} {a b c d u0 u1 u2 u3 : Value} (h0 : A.cell? ⟨V, y * 4, none⟩ = some u0) (h1 : A.cell? ⟨V, y * 4 + 1, none⟩ = some u1) (h2 : A.cell? ⟨V, y * 4 + 2, none⟩ = some u2) (h3 : A.cell? ⟨V, y * 4 + 3, none⟩ = some u3) :
    let B := ((((A.setCell ⟨V, y * 4, none⟩ a).setCell ⟨V, y * 4 + 1, none⟩ b).setCell ⟨V, y * 4 + 2, none⟩ c).setCell ⟨V, y * 4 + 3, none⟩ d)
    B.cell? ⟨V, y * 4, none⟩ = some a ∧ B.cell? ⟨V, y * 4 + 1, none⟩ = some b ∧ B.cell? ⟨V, y * 4 + 2, none⟩ = some c ∧ B.cell? ⟨V, y * 4 + 3, none⟩ = some d := by
  intro B
  have n1 : ∀ i j : Nat, i ≠ j → (⟨V, i, none⟩ : Addr) ≠ ⟨V, j, none⟩ := fun i j h e => h (by simpa only [Addr.mk.injEq, and_true, true_and] using e)
  refine ⟨?_, ?_, ?_, ?_⟩
  · rw [World.cell?_setCell_other _ _ _ _ (n1 _ _ (by omega)), World.cell?_setCell_other _ _ _ _ (n1 _ _ (by omega)), World.cell?_setCell_other _ _ _ _ (n1 _ _ (by omega))]
    exact World.cell?_setCell_same _ _ _ h0
  · rw [World.cell?_setCell_other _ _ _ _ (n1 _ _ (by omega)), World.cell?_setCell_other _ _ _ _ (n1 _ _ (by omega))]
    exact World.cell?_setCell_same _ _ _ (by rw [World.cell?_setCell_other _ _ _ _ (n1 _ _ (by omega))]; exact h1)
  · rw [World.cell?_setCell_other _ _ _ _ (n1 _ _ (by omega))]
    exact World.cell?_setCell_same _ _ _ (by rw [World.cell?_setCell_other _ _ _ _ (n1 _ _ (by omega)), World.cell?_setCell_other _ _ _ _ (n1 _ _ (by omega))]; exact h2)
  · exact World.cell?_setCell_same _ _ _ (by rw [World.cell?_setCell_other _ _ _ _ (n1 _ _ (by omega)), World.cell?_setCell_other _ _ _ _ (n1 _ _ (by omega)), World.cell?_setCell_other _ _ _ _ (n1 _ _ (by omega))]; exact h3)
theorem set4_other {A : World} {V y : Nat} {a b c d : Value} {i : Nat} (h : i / 4 ≠ y) :
    ((((A.setCell ⟨V, y * 4, none⟩ a).setCell ⟨V, y * 4 + 1, none⟩ b).setCell ⟨V, y * 4 + 2, none⟩ c).setCell ⟨V, y * 4 + 3, none⟩ d).cell? ⟨V, i, none⟩ = A.cell? ⟨V, i, none⟩ := by
  have n1 : ∀ i j : Nat, i ≠ j → (⟨V, i, none⟩ : Addr) ≠ ⟨V, j, none⟩ := fun i j h e => h (by simpa only [Addr.mk.injEq, and_true, true_and] using e)
  rw [World.cell?_setCell_other _ _ _ _ (n1 _ _ (by omega)), World.cell?_setCell_other _ _ _ _ (n1 _ _ (by omega)), World.cell?_setCell_other _ _ _ _ (n1 _ _ (by omega)), World.cell?_setCell_other _ _ _ _ (n1 _ _ (by omega))]
/-- What an append to a row in a cell of T has done. -/
theorem push_fx {lo T j m g cap y : Nat} {V2 V3 W4 : World} {v : Value} {o : Obj} {P : List Nat} (h3 : V2.alloc o = V3) (hG : V3.grownBy W4 v.ownBlock) (hO : W4.ownsRow lo 3 1 (.slice (some ⟨g, 0, none⟩) (m + 1) cap) (m + 1) (P.map iv ++ [.int .i64 (y : Int)])) (hm : m = P.length) (hT : g ≠ T) :
    IR lo (W4.setCell ⟨T, j, none⟩ (.slice (some ⟨g, 0, none⟩) (m + 1) cap)) (.slice (some ⟨g, 0, none⟩) (m + 1) cap) (P ++ [y]) ∧ Kept (fun c => c ≠ T ∧ v.ownBlock ≠ some c) V2 (W4.setCell ⟨T, j, none⟩ (.slice (some ⟨g, 0, none⟩) (m + 1) cap)) := by
  refine ⟨?_, ?_⟩
  · have h1 : IR lo W4 (.slice (some ⟨g, 0, none⟩) (m + 1) cap) (P ++ [y]) := by
      unfold IR
      rw [List.map_append, List.length_append, ← hm]
      exact hO
    exact h1.kept (Kept.setCell (fun c => c ≠ T) _ _ _ (by simp)) (fun c hc => by
      have : g = c := by simpa [Value.ownBlock] using hc
      rw [← this]; exact hT)
  · subst h3
    exact ((Kept.alloc _ _ _).trans (Kept.grown hG (fun k hk hn => hn.2 hk))).trans (Kept.setCell _ _ _ _ (by simp))
set_option maxHeartbeats 4000000 in
set_option maxRecDepth 100000 in
theorem i_come {n : Nat} {s : Gr.St} {lo T V : Nat} {W : World} {pv ov : Value} (h : MW n s lo T V W pv ov) {y : Nat} (hy : y < n) (hn : n ≤ 1048576) (hc : s.cnt < n) (hpl : s.path.length < n) (hol : s.opn.length < n) :
    Calls Try.prog 33 #[.pointer (some ⟨T, 0, none⟩), .int .i64 y] W fun e W' => e = .returned (.tuple #[]) ∧ (∃ pv' ov', MW n (Gr.come s y) lo T V W' pv' ov') ∧ Kept (fun c => c < lo ∧ c ≠ T ∧ c ≠ V) W W' := by
  have c0 := h.bx.cel 0 _ rfl
  have c3 := h.bx.cel 3 _ rfl
  have c1 := h.bx.cel 1 _ rfl
  have c2 := h.bx.cel 2 _ rfl
  have f1 := h.bx.live 1
  have f2 := h.bx.live 2
  have f3 := h.bx.live 3
  unfold iv at c3
  obtain ⟨C, hC⟩ : ∃ C, C = s.cnt := ⟨_, rfl⟩
  rw [← hC] at c3 hc
  have HC := hide hC
  have H := hide h
  have HPL := hide hpl
  have HOL := hide hol
  clear hC h hpl hol
  go_enter Try.func33, Try.ntmps33
  go_wp2_with fail
  obtain ⟨V1, hV1⟩ : ∃ V1, W.setCell ⟨T, 3, none⟩ (.int .i64 ((C : Int) + 1)) = V1 := ⟨_, rfl⟩
  rw [hV1]
  have k1 : Kept (fun c => c ≠ T) W V1 := by rw [← hV1]; exact Kept.setCell _ _ _ _ (by simp)
  have b1 : Bx V1 T [.slice (some ⟨V, 0, none⟩) n n, pv, ov, iv (C + 1)] := by
    rw [← hV1]
    exact H.out.bx.put 3 _ (by simp)
  have d0 := b1.cel 0 _ rfl
  have d3 := b1.cel 3 _ rfl
  unfold iv at d3
  have hyn : (y : Int) < n := by omega
  have g0 : ∀ j, V1.frozen? ⟨V, j, none⟩ = false := fun j => by rw [← hV1, World.frozen?_setCell]; exact H.out.vf j
  have HB1 := hide b1
  have HK1 := hide k1
  have HV1 := hide hV1
  have HG := hide g0
  have g00 := g0 (y * 4)
  have g01 := g0 (y * 4 + 1)
  have g02 := g0 (y * 4 + 2)
  have g03 := g0 (y * 4 + 3)
  have hVl : V < W.heap.size := Nat.lt_of_lt_of_le H.out.vl H.out.ll
  have hVT : V ≠ T := fun e => H.out.tv e.symm
  obtain ⟨q0, q1, q2, q3⟩ := H.out.vs y hy
  rw [← k1.cell (p := ⟨V, y * 4, none⟩) hVl hVT] at q0
  rw [← k1.cell (p := ⟨V, y * 4 + 1, none⟩) hVl hVT] at q1
  rw [← k1.cell (p := ⟨V, y * 4 + 2, none⟩) hVl hVT] at q2
  rw [← k1.cell (p := ⟨V, y * 4 + 3, none⟩) hVl hVT] at q3
  clear hV1 k1 b1 c0 c3 c1 c2 f1 f2 f3 g0 hVl hVT
  go_region
  obtain ⟨V2, hV2⟩ : ∃ V2, ((((V1.setCell ⟨V, y * 4, none⟩ (.int .i64 ((C : Int) + 1))).setCell ⟨V, y * 4 + 1, none⟩ (.int .i64 ((C : Int) + 1))).setCell ⟨V, y * 4 + 2, none⟩ (.int .i64 0)).setCell ⟨V, y * 4 + 3, none⟩ (.int .i64 0)).drew = V2 := ⟨_, rfl⟩
  rw [hV2]
  have HV2 : Hid ((V2.cell? ⟨V, y * 4, none⟩ = some (.int .i64 ((C : Int) + 1)) ∧ V2.cell? ⟨V, y * 4 + 1, none⟩ = some (.int .i64 ((C : Int) + 1)) ∧ V2.cell? ⟨V, y * 4 + 2, none⟩ = some (.int .i64 0) ∧ V2.cell? ⟨V, y * 4 + 3, none⟩ = some (.int .i64 0)) ∧ (∀ i, i / 4 ≠ y → V2.cell? ⟨V, i, none⟩ = V1.cell? ⟨V, i, none⟩) ∧ ∀ j, V2.frozen? ⟨V, j, none⟩ = false) := by
    rw [← hV2]
    exact ⟨set4_same q0 q1 q2 q3, fun i hi => set4_other hi, fun j => by simp only [World.frozen?_drew, World.frozen?_setCell]; exact HG.out j⟩
  have k2 : Kept (fun c => c ≠ V) V1 V2 := by rw [← hV2]; exact ((((Kept.setCell _ _ _ _ (by simp)).trans (Kept.setCell _ _ _ _ (by simp))).trans (Kept.setCell _ _ _ _ (by simp))).trans (Kept.setCell _ _ _ _ (by simp))).trans (Kept.drew _ _)
  have b2 := HB1.out.kept k2 H.out.tv
  have e1 := b2.cel 1 _ rfl
  have f1 := b2.live 1
  have HB2 := hide b2
  have HK2 := hide k2
  have hpT : ∀ c, pv.ownBlock = some c → c ≠ T ∧ c ≠ V ∧ lo ≤ c := fun c hc => by
    have := H.out.rp.lt c hc; have := H.out.tl; have := H.out.vl; omega
  have hoT : ∀ c, ov.ownBlock = some c → c ≠ T ∧ c ≠ V ∧ lo ≤ c := fun c hc => by
    have := H.out.ro.lt c hc; have := H.out.tl; have := H.out.vl; omega
  have HPT := hide hpT
  have HOT := hide hoT
  obtain ⟨P, hP⟩ : ∃ P, P = s.path.reverse := ⟨_, rfl⟩
  obtain ⟨m, hm⟩ : ∃ m, m = P.length := ⟨_, rfl⟩
  have r2 : IR lo V2 pv P := by
    rw [hP]
    exact (H.out.rp.kept HK1.out (fun c hc => (hpT c hc).1)).kept k2 (fun c hc => (hpT c hc).2.1)
  obtain ⟨V3, hV3⟩ : ∃ V3, V2.alloc (.cells #[.int .i64 (y : Int)] 3) = V3 := ⟨_, rfl⟩
  have r3 : V3.ownsRow lo 3 1 pv m (P.map iv) := by rw [← hV3, hm]; exact World.ownsRow.alloc r2 _
  have k3 : Kept (fun _ => True) V2 V3 := by rw [← hV3]; exact Kept.alloc _ _ _
  have HR3 := hide r3
  have HK3 := hide k3
  have HV3 := hide hV3
  have HN3 : Hid (V3.heap[V2.heap.size]? = some (.cells #[.int .i64 (y : Int)] 3)) := by unfold Hid; rw [← hV3]; exact heap_new _ _
  have HM : Hid (m + 1 ≤ maxLen ∧ (m + 1) * 8 ≤ 140737488355328 ∧ lo ≤ V3.heap.size) := by
    have h1 := HPL.out
    have h2 : m = s.path.length := by rw [hm, hP, List.length_reverse]
    have h3 := H.out.ll
    have h4 := HK1.out.size
    have h5 := k2.size
    have h6 := k3.size
    unfold Hid maxLen
    omega
  have HP := hide hP
  have HMM := hide hm
  clear hV2 k2 b2 hpT hoT hP hm r2 r3 k3 hV3 d0 d3 g00 g01 g02 g03 q0 q1 q2 q3
  have HT4 : Hid (∀ g1 cap1 W4, V3.grownBy W4 pv.ownBlock → W4.ownsRow lo 3 1 (.slice (some ⟨g1, 0, none⟩) (m + 1) cap1) (m + 1) (P.map iv ++ [.int .i64 (y : Int)]) → Bx W4 T [.slice (some ⟨V, 0, none⟩) n n, pv, ov, iv (C + 1)]) := by
    intro g1 cap1 W4 hG _
    exact (HB2.out.kept HK3.out trivial).kept (Kept.grown hG (S := fun c => pv.ownBlock ≠ some c) (fun k hk hn => hn hk)) (fun e => (HPT.out T e).1 rfl)
  go_upto_region 3 with (at_builtin; rw [HV3.out]; refine ur_stepL rfl _ _ 26 3 rfl Try.info3 Try.underlying26 rfl (by decide) lo V3 pv m (P.map iv) [.int .i64 (y : Int)] V2.heap.size 1 rfl rfl HM.out.2.2 HR3.out HN3.out rfl (by simp [Value.oneCell']) HM.out.1 HM.out.2.1 ?_; intro g1 cap1 W4 hO4 hG4 hat4; have b4 := HT4.out g1 cap1 W4 hG4 hO4; have z1 := b4.cel 1 _ rfl; have z2 := b4.live 1)
  have HH3 : Hid (V2.heap.size < V3.heap.size) := by unfold Hid; rw [← HV3.out]; simp
  have hgT : g1 ≠ T := by
    rcases hat4 with e | e
    · exact (HPT.out g1 e).1
    · have h1 := H.out.tl; have h2 := H.out.ll; have h3 := HK1.out.size; have h4 := HK2.out.size; have h5 := HH3.out; omega
  have hgV : g1 ≠ V := by
    rcases hat4 with e | e
    · exact (HPT.out g1 e).2.1
    · have h1 := H.out.vl; have h2 := H.out.ll; have h3 := HK1.out.size; have h4 := HK2.out.size; have h5 := HH3.out; omega
  have hgo : ov.ownBlock ≠ some g1 := fun e => by
    rcases hat4 with e2 | e2
    · exact H.out.ap g1 e2 e
    · have h2 := H.out.ro.lt g1 e; have h3 := HK1.out.size; have h4 := HK2.out.size; have h5 := HH3.out; omega
  obtain ⟨r5, k5⟩ := push_fx (j := 1) HV3.out hG4 hO4 HMM.out hgT
  obtain ⟨V5, hV5⟩ : ∃ V5, W4.setCell ⟨T, 1, none⟩ (.slice (some ⟨g1, 0, none⟩) (m + 1) cap1) = V5 := ⟨_, rfl⟩
  rw [hV5] at r5 k5 ⊢
  have b5 : Bx V5 T [.slice (some ⟨V, 0, none⟩) n n, .slice (some ⟨g1, 0, none⟩) (m + 1) cap1, ov, iv (C + 1)] := by
    rw [← hV5]; exact b4.put 1 _ (by simp)
  obtain ⟨Q, hQ⟩ : ∃ Q, Q = s.opn.reverse := ⟨_, rfl⟩
  obtain ⟨q, hq⟩ : ∃ q, q = Q.length := ⟨_, rfl⟩
  have hov : ∀ c, ov.ownBlock = some c → c ≠ T ∧ pv.ownBlock ≠ some c := fun c hc => ⟨(HOT.out c hc).1, fun e => H.out.ap c e hc⟩
  have o5 : IR lo V5 ov Q := by
    rw [hQ]
    exact ((H.out.ro.kept HK1.out (fun c hc => (HOT.out c hc).1)).kept HK2.out (fun c hc => (HOT.out c hc).2.1)).kept k5 hov
  have c52 := b5.cel 2 _ rfl
  have f52 := b5.live 2
  have HB5 := hide b5
  have HK5 := hide k5
  have HR5 := hide r5
  have HGT := hide (And.intro hgT (And.intro hgV hgo))
  have HO5 := hide o5
  obtain ⟨V6, hV6⟩ : ∃ V6, V5.alloc (.cells #[.int .i64 (y : Int)] 3) = V6 := ⟨_, rfl⟩
  have r6 : V6.ownsRow lo 3 1 ov q (Q.map iv) := by rw [← hV6, hq]; exact World.ownsRow.alloc o5 _
  have k6 : Kept (fun _ => True) V5 V6 := by rw [← hV6]; exact Kept.alloc _ _ _
  have HR6 := hide r6
  have HK6 := hide k6
  have HV6 := hide hV6
  have HN6 : Hid (V6.heap[V5.heap.size]? = some (.cells #[.int .i64 (y : Int)] 3)) := by unfold Hid; rw [← hV6]; exact heap_new _ _
  have HQQ := hide hq
  have HQO := hide hQ
  have HM6 : Hid (q + 1 ≤ maxLen ∧ (q + 1) * 8 ≤ 140737488355328 ∧ lo ≤ V6.heap.size) := by
    have h1 := HOL.out
    have h2 : q = s.opn.length := by rw [hq, hQ, List.length_reverse]
    have h3 := H.out.ll
    have h4 := HK1.out.size
    have h5 := HK2.out.size
    have h6 := k5.size
    have h7 := k6.size
    unfold Hid maxLen
    omega
  have HT7 : Hid (∀ W7, V6.grownBy W7 ov.ownBlock → Bx W7 T [.slice (some ⟨V, 0, none⟩) n n, .slice (some ⟨g1, 0, none⟩) (m + 1) cap1, ov, iv (C + 1)]) := by
    intro W7 hG
    exact (HB5.out.kept HK6.out trivial).kept (Kept.grown hG (S := fun c => ov.ownBlock ≠ some c) (fun k hk hn => hn hk)) (fun e => (HOT.out T e).1 rfl)
  clear hV5 b5 k5 r5 hgT hgV hgo o5 hV6 r6 k6 hq hQ hov hG4 hO4 hat4 b4 z1 z2 e1 f1
  go_wp2_with (at_builtin; rw [HV6.out]; refine ur_stepL rfl _ _ 26 3 rfl Try.info3 Try.underlying26 rfl (by decide) lo V6 ov q (Q.map iv) [.int .i64 (y : Int)] V5.heap.size 1 rfl rfl HM6.out.2.2 HR6.out HN6.out rfl (by simp [Value.oneCell']) HM6.out.1 HM6.out.2.1 ?_; intro g2 cap2 W7 hO7 hG7 hat7; have b7 := HT7.out W7 hG7; have z1 := b7.cel 2 _ rfl; have z2 := b7.live 2)
  go_end0
  have HH6 : Hid (V5.heap.size < V6.heap.size) := by unfold Hid; rw [← HV6.out]; simp
  have sz : lo ≤ V2.heap.size ∧ W.heap.size ≤ V2.heap.size ∧ V2.heap.size ≤ V5.heap.size := by
    have h2 := H.out.ll; have h3 := HK1.out.size; have h4 := HK2.out.size; have h5 := HK5.out.size; omega
  have hg2T : g2 ≠ T ∧ g2 ≠ V := by
    rcases hat7 with e | e
    · exact ⟨(HOT.out g2 e).1, (HOT.out g2 e).2.1⟩
    · have h1 := H.out.tl; have h2 := H.out.vl; have h5 := HH6.out; omega
  have hg21 : g1 ≠ g2 := fun e => by
    subst e
    rcases hat7 with e2 | e2
    · exact HGT.out.2.2 e2
    · have h1 := (HR5.out.lt g1 rfl).2; have h5 := HH6.out; omega
  obtain ⟨r8, k8⟩ := push_fx (j := 2) HV6.out hG7 hO7 HQQ.out hg2T.1
  obtain ⟨V8, hV8⟩ : ∃ V8, W7.setCell ⟨T, 2, none⟩ (.slice (some ⟨g2, 0, none⟩) (q + 1) cap2) = V8 := ⟨_, rfl⟩
  rw [hV8] at r8 k8 ⊢
  have b8 : Bx V8 T [.slice (some ⟨V, 0, none⟩) n n, .slice (some ⟨g1, 0, none⟩) (m + 1) cap1, .slice (some ⟨g2, 0, none⟩) (q + 1) cap2, iv (C + 1)] := by
    rw [← hV8]; exact b7.put 2 _ (by simp)
  -- what was kept, all the way
  have kA : Kept (fun c => c ≠ T ∧ pv.ownBlock ≠ some c ∧ ov.ownBlock ≠ some c) V2 V8 :=
    (HK5.out.mono (fun c _ h => ⟨h.1, h.2.1⟩)).trans (k8.mono (fun c _ h => ⟨h.1, h.2.2⟩))
  have VL : V < V2.heap.size := by have := H.out.vl; omega
  have VS : V ≠ T ∧ pv.ownBlock ≠ some V ∧ ov.ownBlock ≠ some V := ⟨fun e => H.out.tv e.symm, fun e => (HPT.out V e).2.1 rfl, fun e => (HOT.out V e).2.1 rfl⟩
  refine ⟨rfl, ⟨.slice (some ⟨g1, 0, none⟩) (m + 1) cap1, .slice (some ⟨g2, 0, none⟩) (q + 1) cap2, ?_⟩, ?_⟩
  refine ⟨H.out.tv, H.out.tl, H.out.vl, ?_, ?_, ?_, ?_, ?_, ?_, ?_⟩
  · have := k8.size; omega
  · have := HC.out; rw [this] at b8; exact b8
  · show IR lo V8 _ (y :: s.path).reverse
    rw [List.reverse_cons, ← HP.out]
    exact HR5.out.kept k8 (fun c hc => by
      have e : g1 = c := by simpa [Value.ownBlock] using hc
      subst e
      exact ⟨HGT.out.1, HGT.out.2.2⟩)
  · show IR lo V8 _ (y :: s.opn).reverse
    rw [List.reverse_cons, ← HQO.out]
    exact r8
  · intro c hc hc2
    have e : g1 = c := by simpa [Value.ownBlock] using hc
    have e2 : g2 = c := by simpa [Value.ownBlock] using hc2
    omega
  · intro x hx
    have hk : ∀ i, V8.cell? ⟨V, i, none⟩ = V2.cell? ⟨V, i, none⟩ := fun i => kA.cell (p := ⟨V, i, none⟩) VL VS
    rw [hk, hk, hk, hk]
    show _ = some (iv (Gr.upd s.num y (s.cnt + 1) x)) ∧ _ = some (iv (Gr.upd s.least y (s.cnt + 1) x)) ∧ _ = some (iv (Gr.upd s.nxt y 0 x)) ∧ _ = some (iv (Gr.upd s.com y 0 x))
    by_cases e : x = y
    · subst e
      rw [Gr.upd_same, Gr.upd_same, Gr.upd_same, Gr.upd_same, ← HC.out]
      have e1 : iv (C + 1) = .int .i64 ((C : Int) + 1) := by unfold iv; congr 1
      have e0 : iv 0 = .int .i64 0 := rfl
      rw [e1, e0]
      exact HV2.out.1
    · rw [Gr.upd_other e, Gr.upd_other e, Gr.upd_other e, Gr.upd_other e]
      have h2 := HV2.out.2.1
      rw [h2 _ (by omega), h2 _ (by omega), h2 _ (by omega), h2 _ (by omega)]
      have hVl : V < W.heap.size := Nat.lt_of_lt_of_le H.out.vl H.out.ll
      have k1 : ∀ i, V1.cell? ⟨V, i, none⟩ = W.cell? ⟨V, i, none⟩ := fun i => HK1.out.cell (p := ⟨V, i, none⟩) hVl VS.1
      rw [k1, k1, k1, k1]
      exact H.out.vs x hx
  · intro j
    rw [kA.frozen (p := ⟨V, j, none⟩) VL VS]
    exact HV2.out.2.2 j
  · refine ((HK1.out.mono (fun c _ h => h.2.1)).trans (HK2.out.mono (fun c _ h => h.2.2))).trans (kA.mono (fun c _ h => ⟨h.2.1, fun e => ?_, fun e => ?_⟩))
    · have := (HPT.out c e).2.2; omega
    · have := (HOT.out c e).2.2; omega
end Go.Proofs.Ytmnligaelihmiaa
