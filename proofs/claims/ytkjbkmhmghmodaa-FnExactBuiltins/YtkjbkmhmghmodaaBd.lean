import Derived.Test.YtkjbkmhmghmodaaBc
import Derived.Test.YtkjbkmhmghmodaaKToType
namespace Go.Proofs.Ytkjbkmhmghmodaa
open Go.RowKit Go.Joins

def gen1 (i : Nat) : Fo := .v (.int .i64 2) (.v (.int .i64 i) (.v (.string ⟨#[]⟩) (.s none 0 0 .nil .nil)))
def gens : Nat → Fo
  | 0 => .nil
  | i + 1 => (gens i).app (gen1 i)
def tupC (k : Nat) : Fo := con5 (tupS k) (tupS k) 0 k none k 0 (gens k)
def dat (nm : ByteArray) (vars : Int) (n : Nat) (N : Fo) : Fo := .v (.string nm) (.v (.int .i64 vars) (.s none n 0 N .nil))
def tupD (k : Nat) : Fo := dat (tupS k) k 1 (.v (.string (tupS k)) .nil)

theorem wf_small : ∀ k : Nat, k ≤ 7 → (Lit.int .i64 (k : Int)).wf = true
  | 0, _ => by decide
  | 1, _ => by decide
  | 2, _ => by decide
  | 3, _ => by decide
  | 4, _ => by decide
  | 5, _ => by decide
  | 6, _ => by decide
  | 7, _ => by decide
  | k + 8, h => by omega
theorem Bx.cel_cells {W : World} {b : Nat} {L : List Value} (h : Bx W b L) : Cel W L b 0 := fun i v hv => by rw [Nat.zero_add]; exact h.cel i v hv

theorem gen1_subs (i : Nat) : ∀ W S, (gen1 i).Subs W S := fun _ _ => ⟨⟨Nat.le_refl _, Nat.zero_le _, fun h => by simp [Fo.len] at h⟩, trivial⟩

theorem gens_fit : ∀ k, k ≤ 7 → Fit E (gens k) (rep (E 2) k)
  | 0, _ => trivial
  | k + 1, h => by
    have e : rep (E 2) (k + 1) = rep (E 2) k ++ E 2 := (rep_snoc _ _).symm
    rw [e]
    exact (gens_fit k (by omega)).app (show Fit E (gen1 k) [.i, .i, .t, .s 2] from ⟨by decide, wf_small k (by omega), by decide, trivial, trivial⟩)

structure TT (P : Nat → Prop) (M T4 : Nat) (nm : ByteArray) (nc nd : Nat) (Lr : List Value) (C D : Fo) (pc pd : Option Addr) (qc qd : Nat) (V : World) (i : Nat) (fa : Option Addr) (fc : Nat) (wr : World) : Prop where
  bm : Bx wr M (.slice pc nc qc :: .slice pd nd qd :: Lr)
  bt : Bx wr T4 [.string nm, .string ⟨#[]⟩, .int .i64 0, .int .i64 0, .slice fa i fc]
  hp : Hp (fun c => P c ∨ c = T4) [.row 66 4 (.slice fa i fc) i (gens i), .row 43 5 (.slice pc nc qc) nc C, .row 124 3 (.slice pd nd qd) nd D] wr
  kp : Kept (fun c => P c ∧ c ≠ M) V wr

theorem TT.a {P : Nat → Prop} {M T4 : Nat} {nm : ByteArray} {nc nd : Nat} {Lr : List Value} {C D : Fo} {pc pd : Option Addr} {qc qd : Nat} {V : World} {i : Nat} {fa : Option Addr} {fc : Nat} {wr wb w3 : World} {g cap : Nat}
    (h : TT P M T4 nm nc nd Lr C D pc pd qc qd V i fa fc wr) (hM : P M) (hT : V.heap.size ≤ T4) (hPM : ∀ c, P c → c < V.heap.size) (k : Kept (fun _ => True) wr wb) (hG : wb.grownBy w3 (Value.slice fa i fc).ownBlock)
    (hO : w3.ownsRow 0 66 4 (.slice (some ⟨g, 0, none⟩) (i + 1) cap) (i + 1) ((gens i).vals ++ [.int .i64 2, .int .i64 i, .string ⟨#[]⟩, .slice none 0 0])) (hat : (Value.slice fa i fc).ownBlock = some g ∨ g = wb.heap.size) :
    TT P M T4 nm nc nd Lr C D pc pd qc qd V (i + 1) (some ⟨g, 0, none⟩) cap (w3.setCell ⟨T4, 4, none⟩ (.slice (some ⟨g, 0, none⟩) (i + 1) cap)) ∧ Bx w3 T4 [.string nm, .string ⟨#[]⟩, .int .i64 0, .int .i64 0, .slice fa i fc] := by
  have hz := h.kp.size
  have hT' := h.bt.lt
  have hPl : ∀ c, (P c ∨ c = T4) → c < wb.heap.size := fun c hc => by
    have := k.size
    rcases hc with hc | hc
    · have := hPM c hc; omega
    · omega
  have h1 := ((h.hp.keep k).plain (gen1 i) (gen1_subs i) rfl).perm (perm_b _ _ _)
  obtain ⟨h3, k3⟩ := h1.grow hPl hG hO (by
    rcases hat with e | e
    · exact .inl e.symm
    · rw [e]; exact .inr rfl)
  have hob : ∀ c, (P c ∨ c = T4) → (Value.slice fa i fc).ownBlock ≠ some c := fun c hc e => h1.fr c (by rw [bls_cons]; exact List.mem_append.2 (.inl (List.mem_append.2 (.inl (mem_ob.2 e))))) hc
  have kk : Kept (fun c => (Value.slice fa i fc).ownBlock ≠ some c) wr w3 := (k.mono (fun _ _ _ => trivial)).trans k3
  have m3 := h.bm.kept kk (hob M (.inl hM))
  have t3 := h.bt.kept kk (hob T4 (.inr rfl))
  have hne : M ≠ T4 := fun e => by have := hPM M hM; omega
  have ks : Kept (fun c => c ≠ T4) w3 (w3.setCell ⟨T4, 4, none⟩ (.slice (some ⟨g, 0, none⟩) (i + 1) cap)) := Kept.setCell _ _ _ _ (by simp)
  refine ⟨⟨m3.kept ks hne, t3.put 4 _ (by simp), h3.put _ _ (.inr rfl), ?_⟩, t3⟩
  exact ((h.kp.trans (kk.mono (fun c _ hc => hob c (.inl hc.1)))).trans (ks.mono (fun c _ hc => by have := hPM c hc.1; omega)))

set_option maxHeartbeats 4000000 in
set_option maxRecDepth 100000 in
theorem i_tup (P : Nat → Prop) (M k : Nat) (C D : Fo) (pc pd : Option Addr) (qc qd nc nd : Nat) (Lr : List Value) (V : World)
    (hk : k ≤ 7) (hnc : nc ≤ 999) (hnd : nd ≤ 999) (hM : P M) (hP : ∀ c, P c → c < V.heap.size)
    (bx : Bx V M (.slice pc nc qc :: .slice pd nd qd :: Lr)) (hp : Hp P [.row 43 5 (.slice pc nc qc) nc C, .row 124 3 (.slice pd nd qd) nd D] V) :
    Calls Try.prog 35 #[.pointer (some ⟨M, 0, none⟩), .int .i64 k] V fun e V' => ∃ pc' qc' pd' qd' X Y, e = .returned (.tuple #[]) ∧ Bx V' M (.slice pc' (nc + 1) qc' :: .slice pd' (nd + 1) qd' :: Lr) ∧
      Hp P [.row 43 5 (.slice pc' (nc + 1) qc') (nc + 1) (C.app X), .row 124 3 (.slice pd' (nd + 1) qd') (nd + 1) (D.app Y)] V' ∧ Kept (fun c => P c ∧ c ≠ M) V V' ∧ X.sim (tupC k) ∧ Y.sim (tupD k) := by
  have HTU := hide (i_tuple k V hk)
  have HBX := hide bx
  have HHP := hide hp
  have HP := hide hP
  have HPM := hide hM
  obtain ⟨nm, hnm⟩ : ∃ nm, tupS k = nm := ⟨_, rfl⟩
  have HNM := hide hnm
  rw [hnm] at HTU
  have hns : Hid (nm.size ≤ maxLen) := by
    unfold Hid
    rw [← hnm]
    unfold tupS maxLen
    simp only [ByteArray.size_append]
    have e1 : (⟨#[40]⟩ : ByteArray).size = 1 := rfl
    have e2 : (⟨#[41]⟩ : ByteArray).size = 1 := rfl
    have e3 : (⟨(List.replicate (k - 1) 44).toArray⟩ : ByteArray).size = k - 1 := by simp [ByteArray.size]
    omega
  clear bx hp hP hnm hM
  go_enter Try.func35, Try.ntmps35
  go_wp2_with fail
  refine HTU.out.mono ?_
  rintro e w1 ⟨rfl, b1⟩
  obtain ⟨V1, hV1⟩ : ∃ V1, w1.alloc (.cells #[.string nm, .string ⟨#[]⟩, .int .i64 0, .int .i64 0, .slice none 0 0] 43) = V1 := ⟨_, rfl⟩
  have HZ : Hid (V.heap.size ≤ w1.heap.size) := b1.size
  have HT4 : Hid (TT P M w1.heap.size nm nc nd Lr C D pc pd qc qd V 0 none 0 V1) := by
    unfold Hid
    have k0 : Kept (fun _ => True) V w1 := kt b1
    have k1 : Kept (fun _ => True) w1 V1 := by rw [← hV1]; exact Kept.alloc _ _ _
    refine ⟨HBX.out.kept (k0.trans k1) trivial, by rw [← hV1]; exact Bx.new w1 _ 43, ?_, (k0.trans k1).mono (fun _ _ _ => trivial)⟩
    exact (((HHP.out.keep k0).more (Nat.le_refl _)).keep k1).empty 66 4
  have HV1 := hide hV1
  have hmx : k ≤ 9223372036854775807 := by omega
  clear hV1 b1 HTU HBX HHP
  go_wp2_with fail
  rw [HV1.out]
  clear HV1
  go_loopw [10] (fun s10 wr => ∃ (i : Nat) (fa : Option Addr) (fc : Nat), s10 = .int .i64 i ∧ i ≤ k ∧ Hid (TT P M w1.heap.size nm nc nd Lr C D pc pd qc qd V i fa fc wr)) (fun s10 _ => k - (intOf s10).toNat)
  case atStart => exact ⟨0, none, 0, rfl, Nat.zero_le _, HT4⟩
  case round =>
    obtain ⟨i, fa, fc, rfl, hin, hL⟩ := hrel
    by_cases hi : i < k
    · have hii : (i : Int) < k := by omega
      have HL := hide hL.out
      have HN9 : Hid (∀ W, Kept (fun _ => True) wr W → W.ownsRow 0 66 4 (.slice fa i fc) i (gens i).vals) := fun W k => ownsRow_kept (HL.out.hp.ok _ List.mem_cons_self).1 k (fun _ _ => trivial)
      have h63 : Hid (i + 1 ≤ maxLen ∧ (i + 1) * 56 ≤ 140737488355328) := ⟨by unfold maxLen; omega, by omega⟩
      have HTA : Hid (∀ w3 g cap, (wr.alloc (.cells #[.int .i64 2, .int .i64 i, .string ⟨#[]⟩, .slice none 0 0] 66)).grownBy w3 (Value.slice fa i fc).ownBlock → w3.ownsRow 0 66 4 (.slice (some ⟨g, 0, none⟩) (i + 1) cap) (i + 1) ((gens i).vals ++ [.int .i64 2, .int .i64 i, .string ⟨#[]⟩, .slice none 0 0]) → ((Value.slice fa i fc).ownBlock = some g ∨ g = (wr.alloc (.cells #[.int .i64 2, .int .i64 i, .string ⟨#[]⟩, .slice none 0 0] 66)).heap.size) → _) := fun w3 g cap hG hO hat => TT.a HL.out HPM.out HZ.out HP.out (Kept.alloc _ _ _) hG hO hat
      have ta4 : wr.cell? ⟨w1.heap.size, 4, none⟩ = some (.slice fa i fc) := hL.out.bt.cel 4 _ rfl
      have hlt : ¬ w1.heap.size = wr.heap.size := by have := hL.out.bt.lt; omega
      clear hL HT4
      go_wp2_with (at_builtin; refine ur_stepL rfl _ _ 41 66 rfl Try.info66 Try.underlying41 rfl (by decide) 0 (wr.alloc (.cells #[.int .i64 2, .int .i64 i, .string ⟨#[]⟩, .slice none 0 0] 66)) (.slice fa i fc) i (gens i).vals [.int .i64 2, .int .i64 i, .string ⟨#[]⟩, .slice none 0 0] _ _ rfl rfl (Nat.zero_le _) (HN9.out _ (Kept.alloc _ _ _)) (heap_new _ _) rfl (by simp [Value.oneCell']) h63.out.1 h63.out.2 ?_; intro g7 c7 w3 hO7 hG7 hat7; obtain ⟨ha7, q7⟩ := HTA.out w3 g7 c7 hG7 hO7 hat7; have r2 := q7.cel 4 _ rfl; have f2 := q7.live 4; have HA7 := hide ha7; clear hO7 hG7 hat7 ha7 q7)
      go_roundw
      case rel => exact ⟨i + 1, _, _, by go_num, by omega, HA7⟩
      case measure => simp [intOf]; omega
    · have hik : i = k := by omega
      subst hik
      have HL := hide hL.out
      obtain ⟨fa', fc', hsl, hp4⟩ := hL.out.hp.shut
      cases hsl
      have t0 : wr.cell? ⟨w1.heap.size, 0, none⟩ = some (.string nm) := hL.out.bt.cel 0 _ rfl
      have t1 : wr.cell? ⟨w1.heap.size, 1, none⟩ = some (.string ⟨#[]⟩) := hL.out.bt.cel 1 _ rfl
      have t2 : wr.cell? ⟨w1.heap.size, 2, none⟩ = some (.int .i64 0) := hL.out.bt.cel 2 _ rfl
      have t3 : wr.cell? ⟨w1.heap.size, 3, none⟩ = some (.int .i64 0) := hL.out.bt.cel 3 _ rfl
      have t4 : wr.cell? ⟨w1.heap.size, 4, none⟩ = some (.slice fa i fc) := hL.out.bt.cel 4 _ rfl
      obtain ⟨wb, hwb⟩ : ∃ wb, wr.alloc (.cells #[.string nm, .string ⟨#[]⟩, .int .i64 0, .int .i64 0, .slice fa i fc] 43) = wb := ⟨_, rfl⟩
      have kb : Kept (fun _ => True) wr wb := by rw [← hwb]; exact Kept.alloc _ _ _
      have zb : wb.heap.size = wr.heap.size + 1 := by rw [← hwb]; simp
      have cb : Bx wb wr.heap.size [.string nm, .string ⟨#[]⟩, .int .i64 0, .int .i64 0, .slice fa i fc] := by rw [← hwb]; exact Bx.new _ _ _
      have hfg : Fit E (gens i) (rep (E 2) i) := gens_fit i hk
      have h5 := Hp.v (.string nm) (Hp.v (.string ⟨#[]⟩) (Hp.v (.int .i64 0) (Hp.v (.int .i64 0) hp4)))
      have h6 := ((h5.mono (Q := P) (fun c _ hp hq => hp (.inl hq))).more (b := wr.heap.size) (Nat.le_refl _)).keep kb
      have hkz := hL.out.kp.size
      have HCALL := hide (i_tell (fun c => P c ∨ c = wr.heap.size) M nm i 1 (some ⟨wr.heap.size, 0, none⟩) 1 (con5 nm ⟨#[]⟩ 0 0 fa i fc (gens i)) C D pc pd qc qd nc nd Lr wb (by omega) (by omega) (by omega)
        ⟨hns.out, by decide, by decide, by decide, hfg, trivial⟩ (fun _ => ⟨wr.heap.size, rfl, ⟨.inr rfl, fun e => by have := HP.out M HPM.out; omega⟩, cb.cel_cells⟩) (.inl HPM.out)
        (fun c hc => by rcases hc with hc | hc; have := HP.out c hc; omega; omega) (hL.out.bm.kept kb trivial) (h6.perm (rot3 _ _ _ |>.symm)))
      have HWB := hide hwb
      have HKB := hide kb
      clear hL HT4 hp4 hwb kb zb cb hfg h5 h6 hkz
      go_wp2_with fail
      rw [HWB.out]
      clear HWB
      refine HCALL.out.mono ?_
      rintro e V' ⟨pc', qc', pd', qd', na, ncap, rfl, z1, z2, z3⟩
      have HZ1 := hide z1
      have HZ2 := hide z2
      have HZ3 := hide z3
      clear z1 z2 z3 HCALL
      go_wp2_with fail
      refine bodyPost_end (results_none rfl _ _ _) rfl ⟨pc', qc', pd', qd', _, _, rfl, HZ1.out, HZ2.out.mono (fun c _ hp hq => hp (.inl hq)), (HL.out.kp.trans (HKB.out.mono (fun _ _ _ => trivial))).trans (HZ3.out.mono (fun c _ hc => ⟨.inl hc.1, hc.2⟩)), ?_, ?_⟩
      · unfold tupC
        rw [HNM.out]
        exact ⟨rfl, rfl, rfl, rfl, rfl, Fo.sim.refl _, trivial⟩
      · unfold tupD dat
        rw [HNM.out]
        exact ⟨rfl, rfl, rfl, ⟨rfl, trivial⟩, trivial⟩

end Go.Proofs.Ytkjbkmhmghmodaa

namespace Go.Proofs.Ytkjbkmhmghmodaa
open Go.RowKit Go.Joins

theorem told_sim (nm : ByteArray) (vars : Int) : ∀ (n i : Nat) {K Kx : Fo}, Fit E Kx (rep (E 3) n) → K.sim Kx → (told nm vars i K).sim (told nm vars i Kx) ∧ (names K).sim (names Kx) := by
  intro n
  induction n with
  | zero =>
    intro i K Kx hf hs
    have e := fit_nil hf
    subst e
    rw [Fo.sim_nil hs]
    exact ⟨Fo.sim.refl _, Fo.sim.refl _⟩
  | succ n ih =>
    intro i K Kx hf hs
    replace hf : Fit E Kx ([.t, .t, .i, .i, .s 2] ++ rep (E 3) n) := hf
    obtain ⟨x0, F0, rfl, -, hf⟩ := fit_t hf
    obtain ⟨x1, F1, rfl, -, hf⟩ := fit_t hf
    obtain ⟨x2, F2, rfl, -, hf⟩ := fit_i hf
    obtain ⟨x3, F3, rfl, -, hf⟩ := fit_i hf
    obtain ⟨a4, n4, c4, k4, F4, rfl, -, hf⟩ := fit_s hf
    obtain ⟨u0, rfl, s_1⟩ := Fo.sim_v hs
    obtain ⟨u1, rfl, s_2⟩ := Fo.sim_v s_1
    obtain ⟨u2, rfl, s_3⟩ := Fo.sim_v s_2
    obtain ⟨u3, rfl, s_4⟩ := Fo.sim_v s_3
    obtain ⟨d4, e4, t4, u4, rfl, r4, s_5⟩ := Fo.sim_s s_4
    obtain ⟨h1, h2⟩ := ih (i + 1) hf s_5
    exact ⟨⟨rfl, rfl, rfl, rfl, rfl, r4, h1⟩, ⟨rfl, h2⟩⟩

structure BS (M : Nat) (Lr : List Value) (V0 : World) (nc nd : Nat) (Cx Dx : Fo) (pc pd : Option Addr) (qc qd : Nat) (C D : Fo) (V : World) : Prop where
  bm : Bx V M (.slice pc nc qc :: .slice pd nd qd :: Lr)
  hp : Hp (fun c => c ≤ M) [.row 43 5 (.slice pc nc qc) nc C, .row 124 3 (.slice pd nd qd) nd D] V
  sc : C.sim Cx
  sd : D.sim Dx
  kp : Kept (fun c => c < M) V0 V

theorem BS.keep {M : Nat} {Lr : List Value} {V0 A B : World} {nc nd : Nat} {Cx Dx : Fo} {pc pd : Option Addr} {qc qd : Nat} {C D : Fo} (h : BS M Lr V0 nc nd Cx Dx pc pd qc qd C D A) (k : Kept (fun _ => True) A B) : BS M Lr V0 nc nd Cx Dx pc pd qc qd C D B :=
  ⟨h.bm.kept k trivial, h.hp.keep k, h.sc, h.sd, h.kp.trans (k.mono (fun _ _ _ => trivial))⟩

/-- A data with its constructors. -/
theorem bs_tell {M : Nat} {Lr : List Value} {V0 V : World} {nc nd : Nat} {Cx Dx : Fo} {pc pd : Option Addr} {qc qd : Nat} {C D : Fo} (h : BS M Lr V0 nc nd Cx Dx pc pd qc qd C D V) (nm : ByteArray) (vars : Int) (n b : Nat) (a : Option Addr) (cap : Nat) (K Kx : Fo) (hn : n ≤ 1000) (hnc : nc ≤ 1000) (hnd : nd ≤ 1000)
    (hKx : Fit E Kx (rep (E 3) n)) (hs : K.sim Kx) (hb : b < V.heap.size) (hKc : 0 < n → a = some ⟨b, 0, none⟩ ∧ M < b ∧ Cel V K.vals b 0) (hp : Hp (fun c => c ≤ M ∨ c = b) [.row 43 5 (.slice pc nc qc) nc C, .row 124 3 (.slice pd nd qd) nd D, .fo K] V) :
    Calls Try.prog 34 #[.pointer (some ⟨M, 0, none⟩), .string nm, .int .i64 vars, .slice a n cap] V fun e V' => ∃ pc' qc' pd' qd' C' D', e = .returned (.tuple #[]) ∧ Hid (BS M Lr V0 (nc + n) (nd + 1) (Cx.app (told nm vars 0 Kx)) (Dx.app (dat nm vars n (names Kx))) pc' pd' qc' qd' C' D' V') := by
  have hM := h.bm.lt
  refine (i_tell (fun c => c ≤ M ∨ c = b) M nm vars n a cap K C D pc pd qc qd nc nd Lr V hn hnc hnd (hs.fit hKx) (fun h0 => ?_) (.inl (Nat.le_refl _)) (fun c hc => by rcases hc with hc | hc <;> omega) h.bm hp).mono ?_
  · obtain ⟨h1, h2, h3⟩ := hKc h0
    exact ⟨b, h1, ⟨.inr rfl, by omega⟩, h3⟩
  · rintro e V' ⟨pc', qc', pd', qd', na, ncap, rfl, z1, z2, z3⟩
    obtain ⟨s1, s2⟩ := told_sim nm vars n 0 hKx hs
    exact ⟨pc', qc', pd', qd', _, _, rfl, z1, z2.mono (fun c _ hp hq => hp (.inl hq)), h.sc.app s1, h.sd.app ⟨rfl, rfl, rfl, s2, trivial⟩, h.kp.trans (z3.mono (fun c _ hc => ⟨.inl (Nat.le_of_lt hc), by omega⟩))⟩

theorem bs_tup {M : Nat} {Lr : List Value} {V0 V : World} {nc nd : Nat} {Cx Dx : Fo} {pc pd : Option Addr} {qc qd : Nat} {C D : Fo} (h : BS M Lr V0 nc nd Cx Dx pc pd qc qd C D V) (k : Nat) (hk : k ≤ 7) (hnc : nc ≤ 999) (hnd : nd ≤ 999) :
    Calls Try.prog 35 #[.pointer (some ⟨M, 0, none⟩), .int .i64 k] V fun e V' => ∃ pc' qc' pd' qd' C' D', e = .returned (.tuple #[]) ∧ Hid (BS M Lr V0 (nc + 1) (nd + 1) (Cx.app (tupC k)) (Dx.app (tupD k)) pc' pd' qc' qd' C' D' V') := by
  have hM := h.bm.lt
  refine (i_tup (fun c => c ≤ M) M k C D pc pd qc qd nc nd Lr V hk hnc hnd (Nat.le_refl _) (fun c hc => by omega) h.bm h.hp).mono ?_
  rintro e V' ⟨pc', qc', pd', qd', X, Y, rfl, z1, z2, z3, s1, s2⟩
  exact ⟨pc', qc', pd', qd', _, _, rfl, z1, z2, h.sc.app s1, h.sd.app s2, h.kp.trans (z3.mono (fun c _ hc => ⟨Nat.le_of_lt hc, by omega⟩))⟩

def sBool : ByteArray := ⟨#[66, 111, 111, 108]⟩
def sFalse : ByteArray := ⟨#[70, 97, 108, 115, 101]⟩
def sTrue : ByteArray := ⟨#[84, 114, 117, 101]⟩
def sList : ByteArray := ⟨#[91, 93]⟩
def sCons : ByteArray := ⟨#[58]⟩
def sInt : ByteArray := ⟨#[73, 110, 116]⟩
def sChar : ByteArray := ⟨#[67, 104, 97, 114]⟩
def sArrow : ByteArray := ⟨#[45, 62]⟩
def con0 (x : ByteArray) : Fo := con5 x ⟨#[]⟩ 0 0 none 0 0 .nil
def kB : Fo := (con0 sFalse).app (con0 sTrue)
def kLs (a : Option Addr) (c : Nat) : Fo := (gen1 0).app (.v (.int .i64 3) (.v (.int .i64 0) (.v (.string sList) (.s a 1 c (gen1 0) .nil))))
def kL (a b : Option Addr) (c d : Nat) : Fo := (con0 sList).app (con5 sCons ⟨#[]⟩ 0 0 a 2 c (kLs b d))
def cx1 : Fo := (told sBool 0 0 kB).app (told sList 1 0 (kL none none 0 0))
def dx1 : Fo := (((((dat sBool 0 2 (names kB)).app (dat sList 1 2 (names (kL none none 0 0)))).app (dat sInt 0 0 .nil)).app (dat sChar 0 0 .nil)).app (dat sArrow 2 0 .nil))
def ct : Nat → Fo
  | 0 => cx1
  | 1 => cx1.app (tupC 0)
  | 2 => cx1.app (tupC 0)
  | i + 3 => (ct (i + 2)).app (tupC (i + 2))
def dt : Nat → Fo
  | 0 => dx1
  | 1 => dx1.app (tupD 0)
  | 2 => dx1.app (tupD 0)
  | i + 3 => (dt (i + 2)).app (tupD (i + 2))
def ansB : Fo := .s none 11 0 (ct 8) (.s none 12 0 (dt 8) (.s none 0 0 .nil (.s none 0 0 .nil (.s none 0 0 .nil .nil))))

theorem kB_fit : Fit E kB (rep (E 3) 2) := ⟨by decide, by decide, by decide, by decide, trivial, by decide, by decide, by decide, by decide, trivial, trivial⟩
theorem kL_fit : Fit E (kL none none 0 0) (rep (E 3) 2) := ⟨by decide, by decide, by decide, by decide, trivial, by decide, by decide, by decide, by decide, ⟨by decide, by decide, by decide, trivial, by decide, by decide, by decide, ⟨by decide, by decide, by decide, trivial, trivial⟩, trivial⟩, trivial⟩
theorem kL_sim (a b : Option Addr) (c d : Nat) : (kL a b c d).sim (kL none none 0 0) := ⟨rfl, rfl, rfl, rfl, rfl, trivial, rfl, rfl, rfl, rfl, rfl, ⟨rfl, rfl, rfl, rfl, trivial, rfl, rfl, rfl, rfl, Fo.sim.refl _, trivial⟩, trivial⟩

end Go.Proofs.Ytkjbkmhmghmodaa
