import Derived.Test.YtkjbkmhmghmodaaBb
import Derived.Deep.DeepCutAuto
namespace Go.Proofs.Ytkjbkmhmghmodaa
open Go.RowKit Go.Joins

theorem Hp.drop4 {P : Nat → Prop} {i j k : Item} {x : Value} {X : Fo} {A : World} (h : Hp P [i, j, k, .fo (.v x X)] A) : Hp P [i, j, k, .fo X] A :=
  ⟨fun q hq => by
    simp only [List.mem_cons, List.not_mem_nil, or_false] at hq
    rcases hq with rfl | rfl | rfl | rfl
    · exact h.ok q (by simp)
    · exact h.ok q (by simp)
    · exact h.ok q (by simp)
    · exact h.ok (.fo (.v x X)) (by simp), h.nd, h.fr⟩
/-- The data is told. -/
theorem tell_end {P : Nat → Prop} {M T8 : Nat} {nm : ByteArray} {vars : Int} {nc nd n : Nat} {Lr : List Value} {C D N : Fo} {pd pc na : Option Addr} {qd qc ncap : Nat} {V wr wc w5 : World} {g cap : Nat}
    (bm : Bx wr M (.slice pc nc qc :: .slice pd nd qd :: Lr)) (kp : Kept (fun c => P c ∧ c ≠ M) V wr)
    (hp : Hp (fun c => P c ∨ c = T8) [.row 124 3 (.slice pd nd qd) nd D, .fo (.v (.string nm) (.v (.int .i64 vars) (.s na n ncap N .nil))), .row 43 5 (.slice pc nc qc) nc C] wr)
    (hM : P M) (hPM : ∀ c, P c → c < V.heap.size) (h8 : T8 < wr.heap.size) (k : Kept (fun _ => True) wr wc) (hG : wc.grownBy w5 (Value.slice pd nd qd).ownBlock)
    (hO : w5.ownsRow 0 124 3 (.slice (some ⟨g, 0, none⟩) (nd + 1) cap) (nd + 1) (D.vals ++ [.string nm, .int .i64 vars, .slice na n ncap])) (hat : (Value.slice pd nd qd).ownBlock = some g ∨ g = wc.heap.size) :
    (∀ W, W = w5.setCell ⟨M, 1, none⟩ (.slice (some ⟨g, 0, none⟩) (nd + 1) cap) → Bx W M (.slice pc nc qc :: .slice (some ⟨g, 0, none⟩) (nd + 1) cap :: Lr) ∧ Hp P [.row 43 5 (.slice pc nc qc) nc C, .row 124 3 (.slice (some ⟨g, 0, none⟩) (nd + 1) cap) (nd + 1) (D.app (.v (.string nm) (.v (.int .i64 vars) (.s na n ncap N .nil))))] W ∧ Kept (fun c => P c ∧ c ≠ M) V W) ∧ Bx w5 M (.slice pc nc qc :: .slice pd nd qd :: Lr) := by
  have hz := kp.size
  have hPl : ∀ c, (P c ∨ c = T8) → c < wc.heap.size := fun c hc => by
    have := k.size
    rcases hc with hc | hc
    · have := hPM c hc; omega
    · omega
  have h1 := hp.keep k
  obtain ⟨h3, k3⟩ := h1.grow hPl hG hO (by
    rcases hat with e | e
    · exact .inl e.symm
    · rw [e]; exact .inr rfl)
  have hob : ∀ c, (P c ∨ c = T8) → (Value.slice pd nd qd).ownBlock ≠ some c := fun c hc e => h1.fr c (by rw [bls_cons]; exact List.mem_append.2 (.inl (List.mem_append.2 (.inl (mem_ob.2 e))))) hc
  have kk : Kept (fun c => (Value.slice pd nd qd).ownBlock ≠ some c) wr w5 := (k.mono (fun _ _ _ => trivial)).trans k3
  have m5 := bm.kept kk (hob M (.inl hM))
  refine ⟨fun W hW => ?_, m5⟩
  subst hW
  have ks : Kept (fun c => c ≠ M) w5 (w5.setCell ⟨M, 1, none⟩ (.slice (some ⟨g, 0, none⟩) (nd + 1) cap)) := Kept.setCell _ _ _ _ (by simp)
  refine ⟨m5.put 1 _ (by simp), ?_, ?_⟩
  · exact ((h3.perm (perm_b _ _ _)).put _ _ (.inl hM)).mono (fun c _ hp hq => hp (.inl hq))
  · exact (kp.trans (kk.mono (fun c _ hc => hob c (.inl hc.1)))).trans (ks.mono (fun c _ hc => hc.2))

theorem Fo.nil_app (F : Fo) : Fo.app .nil F = F := rfl

set_option maxHeartbeats 4000000 in
set_option maxRecDepth 100000 in
theorem i_tell (P : Nat → Prop) (M : Nat) (nm : ByteArray) (vars : Int) (n : Nat) (a : Option Addr) (cap : Nat) (K C D : Fo) (pc pd : Option Addr) (qc qd nc nd : Nat) (Lr : List Value) (V : World)
    (hn : n ≤ 1000) (hnc : nc ≤ 1000) (hnd : nd ≤ 1000) (hK : Fit E K (rep (E 3) n)) (hKc : 0 < n → ∃ b, a = some ⟨b, 0, none⟩ ∧ (P b ∧ b ≠ M) ∧ Cel V K.vals b 0) (hM : P M) (hP : ∀ c, P c → c < V.heap.size)
    (bx : Bx V M (.slice pc nc qc :: .slice pd nd qd :: Lr)) (hp : Hp P [.row 43 5 (.slice pc nc qc) nc C, .row 124 3 (.slice pd nd qd) nd D, .fo K] V) :
    Calls Try.prog 34 #[.pointer (some ⟨M, 0, none⟩), .string nm, .int .i64 vars, .slice a n cap] V fun e V' => ∃ pc' qc' pd' qd' na ncap, e = .returned (.tuple #[]) ∧ Bx V' M (.slice pc' (nc + n) qc' :: .slice pd' (nd + 1) qd' :: Lr) ∧
      Hp P [.row 43 5 (.slice pc' (nc + n) qc') (nc + n) (C.app (told nm vars 0 K)), .row 124 3 (.slice pd' (nd + 1) qd') (nd + 1) (D.app (.v (.string nm) (.v (.int .i64 vars) (.s na n ncap (names K) .nil))))] V' ∧ Kept (fun c => P c ∧ c ≠ M) V V' := by
  obtain ⟨V1, hV1⟩ : ∃ V1, V.alloc (.cells #[.string nm, .int .i64 vars, .slice none 0 0] 124) = V1 := ⟨_, rfl⟩
  have HT8 : Hid (TL P M V.heap.size nm vars nc nd Lr C D pd qd V 0 pc none qc 0 .nil .nil K V1) := by
    unfold Hid
    rw [← hV1]
    have k := Kept.alloc (fun _ => True) V (.cells #[.string nm, .int .i64 vars, .slice none 0 0] 124)
    refine ⟨bx.kept k trivial, Bx.new V _ 124, ?_, k.mono (fun _ _ _ => trivial)⟩
    have h1 := ((hp.more (Nat.le_refl _)).keep k).empty 9 1
    rw [Fo.app_nil]
    exact h1.perm (by
      refine (perm_b _ _ _).trans ?_
      exact List.Perm.refl _)
  have HV1 := hide hV1
  have HP := hide hP
  have HK0 : Hid (0 < n → ∃ b, a = some ⟨b, 0, none⟩ ∧ (P b ∧ b ≠ M) ∧ Cel V K.vals b 0) := hKc
  have HIN : Hid (∃ Kp : Fo, Fo.app Kp K = K ∧ Fit E K (rep (E 3) (n - 0)) ∧ Kp.len = 0 * 5 ∧ Fo.app .nil (told nm vars 0 K) = told nm vars 0 K ∧ Fo.app .nil (names K) = names K) := ⟨.nil, rfl, hK, rfl, rfl, rfl⟩
  have HMl : Hid (M < V.heap.size) := hP M hM
  have hmx : n ≤ 9223372036854775807 := by omega
  have HPM := hide hM
  clear hV1 hP bx hp hK hKc
  go_enter Try.func34, Try.ntmps34
  go_wp2_with fail
  rw [HV1.out]
  clear HV1
  go_loopw [16] (fun s16 wr => ∃ (i : Nat) (pc na : Option Addr) (qc ncap : Nat) (Cx N r : Fo), s16 = .int .i64 i ∧ i ≤ n ∧ Hid (TL P M V.heap.size nm vars nc nd Lr C D pd qd V i pc na qc ncap Cx N r wr) ∧ Hid (∃ Kp : Fo, Kp.app r = K ∧ Fit E r (rep (E 3) (n - i)) ∧ Kp.len = i * 5 ∧ Cx.app (told nm vars i r) = told nm vars 0 K ∧ N.app (names r) = names K)) (fun s16 _ => n - (intOf s16).toNat)
  case atStart => exact ⟨0, pc, none, qc, 0, .nil, .nil, K, rfl, Nat.zero_le _, HT8, HIN⟩
  case round =>
    obtain ⟨i, pc, na, qc, ncap, Cx, N, r, rfl, hin, hL, hJ⟩ := hrel
    by_cases hi : i < n
    · have hii : (i : Int) < n := by omega
      obtain ⟨Kp, hKp, hr, hKl, hCx, hN⟩ := hJ.out
      obtain ⟨x, rr, rfl, hx, hrr, hxl⟩ := hr.next hi
      obtain ⟨b, hb, ⟨hPb, hbM⟩, hcel⟩ := HK0.out (by omega)
      subst hb
      have hc2 := hcel.kept hL.out.kp (HP.out b hPb) ⟨hPb, hbM⟩
      rw [← hKp, Fo.app_vals] at hc2
      have hc3 := hc2.right
      rw [Fo.vals_length, hKl, Fo.app_vals] at hc3
      have hc4 := hc3.left
      replace hx : Fit E x [.t, .t, .i, .i, .s 2] := hx
      obtain ⟨x0, F0, rfl, -, hx1⟩ := fit_t hx
      obtain ⟨x1, F1, rfl, -, hx2⟩ := fit_t hx1
      obtain ⟨x2, F2, rfl, -, hx3⟩ := fit_i hx2
      obtain ⟨x3, F3, rfl, -, hx4⟩ := fit_i hx3
      obtain ⟨fa, fn, fc, fk, F4, rfl, hfk, hx5⟩ := fit_s hx4
      obtain rfl := fit_nil hx5
      have e0 : wr.cell? ⟨b, 0 + i * 5, none⟩ = some (.string x0) := hc4 0 _ rfl
      have e1 : wr.cell? ⟨b, 0 + i * 5 + 1, none⟩ = some (.string x1) := hc4 1 _ rfl
      have e2 : wr.cell? ⟨b, 0 + i * 5 + 2, none⟩ = some (.int .i64 x2) := hc4 2 _ rfl
      have e3 : wr.cell? ⟨b, 0 + i * 5 + 3, none⟩ = some (.int .i64 x3) := hc4 3 _ rfl
      have e4 : wr.cell? ⟨b, 0 + i * 5 + 4, none⟩ = some (.slice fa fn fc) := hc4 4 _ rfl
      rw [Nat.zero_add] at e0 e1 e2 e3 e4
      have HL := hide hL.out
      have hoN := (hL.out.hp.perm (perm_b _ _ _)).ok _ List.mem_cons_self
      have HN9 : Hid (∀ W, Kept (fun _ => True) wr W → W.ownsRow 0 9 1 (.slice na i ncap) i N.vals) := fun W k => ownsRow_kept hoN.1 k (fun _ _ => trivial)
      have hrc := hL.out.hp.ok _ List.mem_cons_self
      obtain ⟨wa, hwa⟩ : ∃ wa, wr.alloc (.cells #[.string x0, .string nm, .int .i64 i, .int .i64 vars, .slice fa fn fc] 43) = wa := ⟨_, rfl⟩
      have HKA : Hid (Kept (fun _ => True) wr wa) := by unfold Hid; rw [← hwa]; exact Kept.alloc _ _ _
      have HQA : Hid (Bx wa wr.heap.size [.string x0, .string nm, .int .i64 i, .int .i64 vars, .slice fa fn fc]) := by unfold Hid; rw [← hwa]; exact Bx.new _ _ _
      have HWA := hide hwa
      have h63 : Hid (i + 1 ≤ maxLen ∧ (i + 1) * 16 ≤ 140737488355328) := ⟨by unfold maxLen; omega, by omega⟩
      have H63 : Hid (nc + i + 1 ≤ maxLen ∧ (nc + i + 1) * 72 ≤ 140737488355328) := ⟨by unfold maxLen; omega, by omega⟩
      have HTA : Hid (∀ w3 g cap, (wa.alloc (.cells #[.string x0] 9)).grownBy w3 (Value.slice na i ncap).ownBlock → w3.ownsRow 0 9 1 (.slice (some ⟨g, 0, none⟩) (i + 1) cap) (i + 1) (N.vals ++ [.string x0]) → ((Value.slice na i ncap).ownBlock = some g ∨ g = (wa.alloc (.cells #[.string x0] 9)).heap.size) → _) := fun w3 g cap hG hO hat => TL.a HL.out HPM.out (Nat.le_refl _) HP.out (HKA.out.trans (Kept.alloc _ _ _)) (HQA.out.kept (Kept.alloc (fun _ => True) _ _) trivial) hG hO hat
      have HJX := hide (And.intro hKp (And.intro hKl (And.intro hCx (And.intro hN hrr))))
      have ta2 : wa.cell? ⟨V.heap.size, 2, none⟩ = some (.slice na i ncap) := (HL.out.bt.kept HKA.out trivial).cel 2 _ rfl
      have ca0 : wa.cell? ⟨wr.heap.size, 0, none⟩ = some (.string x0) := HQA.out.cel 0 _ rfl
      have hne : ¬ V.heap.size = wr.heap.size := by have := HL.out.bt.lt; omega
      clear hwa hL hJ hKp hr hrr hxl hKl hCx hN hcel hc2 hc3 hc4 hx hx1 hx2 hx3 hx4 hx5 hoN hrc hfk HT8 HIN
      go_upto_region 5 with fail
      rw [HWA.out]
      clear HWA
      go_upto_region 6 with (at_builtin; refine ur_stepL rfl _ _ 56 9 rfl Try.info9 Try.underlying56 rfl (by decide) 0 (wa.alloc (.cells #[.string x0] 9)) (.slice na i ncap) i N.vals [.string x0] _ _ rfl rfl (Nat.zero_le _) (HN9.out _ (HKA.out.trans (Kept.alloc _ _ _))) (heap_new _ _) rfl (by simp [Value.oneCell']) h63.out.1 h63.out.2 ?_; intro g7 c7 w3 hO7 hG7 hat7; obtain ⟨ha7, q7⟩ := HTA.out w3 g7 c7 hG7 hO7 hat7; have r2 := q7.cel 2 _ rfl; have f2 := q7.live 2; have HA7 := hide ha7; clear hO7 hG7 hat7 ha7 q7)
      obtain ⟨w4, hw4⟩ : ∃ w4, w3.setCell ⟨V.heap.size, 2, none⟩ (.slice (some ⟨g7, 0, none⟩) (i + 1) c7) = w4 := ⟨_, rfl⟩
      obtain ⟨bm4, bt4, bx4, kp4, hp4⟩ := HA7.out w4 hw4.symm
      rw [hw4]
      clear hw4 HA7 r2 f2 ta2 ca0 hne
      have HBM4 := hide bm4
      have HBT4 := hide bt4
      have HKP4 := hide kp4
      have HHP4 := hide (Hp.drop4 (Hp.drop4 (Hp.drop4 (Hp.drop4 hp4))))
      have h10 : Hid (wr.heap.size < w4.heap.size) := bx4.lt
      have HC43 : Hid (∀ W, Kept (fun _ => True) w4 W → W.ownsRow 0 43 5 (.slice pc (nc + i) qc) (nc + i) (C.app Cx).vals) := fun W k => ownsRow_kept (HHP4.out.ok _ List.mem_cons_self).1 k (fun _ _ => trivial)
      have m0 : w4.cell? ⟨M, 0, none⟩ = some (.slice pc (nc + i) qc) := bm4.cel 0 _ rfl
      have t0 : w4.cell? ⟨wr.heap.size, 0, none⟩ = some (.string x0) := bx4.cel 0 _ rfl
      have t1 : w4.cell? ⟨wr.heap.size, 1, none⟩ = some (.string nm) := bx4.cel 1 _ rfl
      have t2 : w4.cell? ⟨wr.heap.size, 2, none⟩ = some (.int .i64 i) := bx4.cel 2 _ rfl
      have t3 : w4.cell? ⟨wr.heap.size, 3, none⟩ = some (.int .i64 vars) := bx4.cel 3 _ rfl
      have t4 : w4.cell? ⟨wr.heap.size, 4, none⟩ = some (.slice fa fn fc) := bx4.cel 4 _ rfl
      have m1 : ∀ o, (w4.alloc o).cell? ⟨M, 0, none⟩ = some (.slice pc (nc + i) qc) := fun o => (bm4.kept (Kept.alloc (fun _ => True) _ _) trivial).cel 0 _ rfl
      have HTB : Hid (∀ wc w5 g cap, Kept (fun _ => True) w4 wc → wc.grownBy w5 (Value.slice pc (nc + i) qc).ownBlock → w5.ownsRow 0 43 5 (.slice (some ⟨g, 0, none⟩) (nc + i + 1) cap) (nc + i + 1) ((C.app Cx).vals ++ [.string x0, .string nm, .int .i64 i, .int .i64 vars, .slice fa fn fc]) → ((Value.slice pc (nc + i) qc).ownBlock = some g ∨ g = wc.heap.size) → _) :=
        fun wc w5 g cap k hG hO hat => TL.b (fk := fk) HBM4.out HBT4.out HKP4.out HHP4.out HPM.out (Nat.le_refl _) HP.out h10.out k hG hO hat
      clear bm4 bt4 bx4 kp4 hp4
      go_region_law (refine ur_draw (by rfl) _ _ 22 43 (by rfl) Try.info43 Try.underlying22 rfl (by decide) 0 _ (.slice pc (nc + i) qc) (nc + i) (C.app Cx).vals [.string x0, .string nm, .int .i64 i, .int .i64 vars, .slice fa fn fc] _ _ (by rfl) (HC43.out _ (by repeat first | with_reducible exact Kept.refl _ _ | with_reducible refine Kept.al ?_ | with_reducible refine Kept.dr ?_)) (by rfl) (by first | with_reducible exact heap_new _ _ | with_reducible exact heap_new_dr _ _) (Nat.zero_le _) (by rfl) (by simp [Value.oneCell']) H63.out.1 H63.out.2 ?_; intro g8 c8 w5 hO8 hG8 hat8; obtain ⟨hb8, q8⟩ := HTB.out _ w5 g8 c8 (by repeat first | with_reducible exact Kept.refl _ _ | with_reducible refine Kept.al ?_ | with_reducible refine Kept.dr ?_) hG8 hO8 hat8; have r0 := q8.cel 0 _ rfl; have f0 := q8.live 0; have HB8 := hide hb8; clear hO8 hG8 hat8 hb8 q8)
      all_goals
        go_wp2_with fail
        go_roundw
        case rel =>
          obtain ⟨hKp, hKl, hCx, hN, hrr⟩ := HJX.out
          refine ⟨i + 1, _, _, _, _, _, _, rr, by go_num, by omega, HB8, Kp.app (.v (.string x0) (.v (.string x1) (.v (.int .i64 x2) (.v (.int .i64 x3) (.s fa fn fc fk .nil))))), by rw [Fo.app_assoc]; exact hKp, hrr, by rw [Fo.app_len, hKl]; simp only [Fo.len]; omega, ?_, ?_⟩
          · rw [Fo.app_assoc]; exact hCx
          · rw [Fo.app_assoc]; exact hN
        case measure => simp [intOf]; omega
    · obtain ⟨Kp, hKp, hr, hKl, hCx, hN⟩ := hJ.out
      have hrn := hr.done hi
      subst hrn
      have hin' : i = n := by omega
      subst hin'
      have e1 : told nm vars i .nil = .nil := rfl
      have e2 : names .nil = .nil := rfl
      rw [e1, Fo.app_nil] at hCx
      rw [e2, Fo.app_nil] at hN
      subst hCx hN
      have HL := hide hL.out
      have h10 : Hid (V.heap.size < wr.heap.size) := hL.out.bt.lt
      obtain ⟨na', ncap', hsl, hp4⟩ := (hL.out.hp.perm (perm_b _ _ _)).shut
      cases hsl
      have HHP := hide (((Hp.v (.string nm) (Hp.v (.int .i64 vars) hp4)).sub (first3 _ _ _ _)).perm (rot3 _ _ _))
      have HD : Hid (∀ W, Kept (fun _ => True) wr W → W.ownsRow 0 124 3 (.slice pd nd qd) nd D.vals) := fun W k => ownsRow_kept (HHP.out.ok _ List.mem_cons_self).1 k (fun _ _ => trivial)
      have H63 : Hid (nd + 1 ≤ maxLen ∧ (nd + 1) * 48 ≤ 140737488355328) := ⟨by unfold maxLen; omega, by omega⟩
      have m1 : wr.cell? ⟨M, 1, none⟩ = some (.slice pd nd qd) := hL.out.bm.cel 1 _ rfl
      have m1' : ∀ o, (wr.alloc o).cell? ⟨M, 1, none⟩ = some (.slice pd nd qd) := fun o => (hL.out.bm.kept (Kept.alloc (fun _ => True) _ _) trivial).cel 1 _ rfl
      have t0 : wr.cell? ⟨V.heap.size, 0, none⟩ = some (.string nm) := hL.out.bt.cel 0 _ rfl
      have t1 : wr.cell? ⟨V.heap.size, 1, none⟩ = some (.int .i64 vars) := hL.out.bt.cel 1 _ rfl
      have t2 : wr.cell? ⟨V.heap.size, 2, none⟩ = some (.slice na i ncap) := hL.out.bt.cel 2 _ rfl
      have HTB : Hid (∀ wc w5 g cap, Kept (fun _ => True) wr wc → wc.grownBy w5 (Value.slice pd nd qd).ownBlock → w5.ownsRow 0 124 3 (.slice (some ⟨g, 0, none⟩) (nd + 1) cap) (nd + 1) (D.vals ++ [.string nm, .int .i64 vars, .slice na i ncap]) → ((Value.slice pd nd qd).ownBlock = some g ∨ g = wc.heap.size) → _) :=
        fun wc w5 g cap k hG hO hat => tell_end (na := na) (ncap := ncap) HL.out.bm HL.out.kp HHP.out HPM.out HP.out h10.out k hG hO hat
      clear hL hJ hKp hr hKl hin hi HIN HT8 e1 e2 HK0
      go_upto_region 8 with fail
      go_region_law (refine ur_draw (by rfl) _ _ 23 124 (by rfl) Try.info124 Try.underlying23 rfl (by decide) 0 _ (.slice pd nd qd) nd D.vals [.string nm, .int .i64 vars, .slice na i ncap] _ _ (by rfl) (HD.out _ (by repeat first | with_reducible exact Kept.refl _ _ | with_reducible refine Kept.al ?_ | with_reducible refine Kept.dr ?_)) (by rfl) (by first | with_reducible exact heap_new _ _ | with_reducible exact heap_new_dr _ _) (Nat.zero_le _) (by rfl) (by simp [Value.oneCell']) H63.out.1 H63.out.2 ?_; intro g8 c8 w5 hO8 hG8 hat8; obtain ⟨hb8, q8⟩ := HTB.out _ w5 g8 c8 (by repeat first | with_reducible exact Kept.refl _ _ | with_reducible refine Kept.al ?_ | with_reducible refine Kept.dr ?_) hG8 hO8 hat8; have r1 := q8.cel 1 _ rfl; have f1 := q8.live 1; have HB8 := hide hb8; clear hO8 hG8 hat8 hb8 q8)
      all_goals
        go_wp2_with fail
        obtain ⟨z1, z2, z3⟩ := HB8.out _ rfl
        refine bodyPost_end (results_none rfl _ _ _) rfl ⟨_, _, _, _, _, _, rfl, z1, z2, z3⟩

end Go.Proofs.Ytkjbkmhmghmodaa
