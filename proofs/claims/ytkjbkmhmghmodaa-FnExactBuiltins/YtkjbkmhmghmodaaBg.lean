import Derived.Test.YtkjbkmhmghmodaaBf
namespace Go.Proofs.Ytkjbkmhmghmodaa
open Go.RowKit Go.Joins

/-- The model's tables. -/
structure MP (P : Nat → Prop) (M : Nat) (Lr : List Value) (V0 : World) (nc nd : Nat) (Cx Dx : Fo) (pc pd : Option Addr) (qc qd : Nat) (C D : Fo) (V : World) : Prop where
  bm : Bx V M (.slice pc nc qc :: .slice pd nd qd :: Lr)
  hp : Hp P [.row 43 5 (.slice pc nc qc) nc C, .row 124 3 (.slice pd nd qd) nd D] V
  sc : C.sim Cx
  sd : D.sim Dx
  dl : D.len = nd * 3
  kp : Kept (fun c => P c ∧ c ≠ M) V0 V
  pm : P M
  pl : ∀ c, P c → c < V.heap.size

/-- The last data's constructors still coming. -/
structure MO (P : Nat → Prop) (M : Nat) (Lr : List Value) (V0 : World) (nc nd : Nat) (Cx Dx : Fo) (nm : ByteArray) (vars : Int) (k : Nat) (N : Fo) (pc pd na : Option Addr) (qc qd ncap : Nat) (C D : Fo) (V : World) : Prop where
  bm : Bx V M (.slice pc nc qc :: .slice pd (nd + 1) qd :: Lr)
  hp : Hp P [.row 43 5 (.slice pc nc qc) nc C, .row 124 3 (.slice pd (nd + 1) qd) (nd + 1) (D.app (.v (.string nm) (.v (.int .i64 vars) (.v (.slice na k ncap) .nil)))), .row 9 1 (.slice na k ncap) k N] V
  sc : C.sim Cx
  sd : D.sim Dx
  dl : D.len = nd * 3
  kp : Kept (fun c => P c ∧ c ≠ M) V0 V
  pm : P M
  pl : ∀ c, P c → c < V.heap.size

theorem MO.close {P : Nat → Prop} {M : Nat} {Lr : List Value} {V0 : World} {nc nd : Nat} {Cx Dx : Fo} {nm : ByteArray} {vars : Int} {k : Nat} {N : Fo} {pc pd na : Option Addr} {qc qd ncap : Nat} {C D : Fo} {V : World} (h : MO P M Lr V0 nc nd Cx Dx nm vars k N pc pd na qc qd ncap C D V) :
    MP P M Lr V0 nc (nd + 1) Cx (Dx.app (dat nm vars k N)) pc pd qc qd C (D.app (.v (.string nm) (.v (.int .i64 vars) (.s na k ncap N .nil)))) V := by
  obtain ⟨a1, b1, e1, h1⟩ := (h.hp.perm (rot3 _ _ _)).shut
  cases e1
  have h2 := (Hp.v (.string nm) (Hp.v (.int .i64 vars) h1)).perm (rot3 _ _ _)
  have h3 := h2.swap (Y := .v (.string nm) (.v (.int .i64 vars) (.s na k ncap N .nil))) rfl rfl
  exact ⟨h.bm, h3.perm (perm_b _ _ _), h.sc, h.sd.app ⟨rfl, rfl, rfl, Fo.sim.refl _, trivial⟩, by rw [Fo.app_len, h.dl]; simp only [Fo.len]; omega, h.kp, h.pm, h.pl⟩

theorem MO.keep {P : Nat → Prop} {M : Nat} {Lr : List Value} {V0 : World} {nc nd : Nat} {Cx Dx : Fo} {nm : ByteArray} {vars : Int} {k : Nat} {N : Fo} {pc pd na : Option Addr} {qc qd ncap : Nat} {C D : Fo} {V W : World} (h : MO P M Lr V0 nc nd Cx Dx nm vars k N pc pd na qc qd ncap C D V) (kW : Kept (fun _ => True) V W) :
    MO P M Lr W nc nd Cx Dx nm vars k N pc pd na qc qd ncap C D W := ⟨h.bm.kept kW trivial, h.hp.keep kW, h.sc, h.sd, h.dl, Kept.refl _ _, h.pm, fun c hc => Nat.lt_of_lt_of_le (h.pl c hc) kW.size⟩

theorem MP.keep {P : Nat → Prop} {M : Nat} {Lr : List Value} {V0 : World} {nc nd : Nat} {Cx Dx : Fo} {pc pd : Option Addr} {qc qd : Nat} {C D : Fo} {V W : World} (h : MP P M Lr V0 nc nd Cx Dx pc pd qc qd C D V) (kW : Kept (fun _ => True) V W) :
    MP P M Lr W nc nd Cx Dx pc pd qc qd C D W := ⟨h.bm.kept kW trivial, h.hp.keep kW, h.sc, h.sd, h.dl, Kept.refl _ _, h.pm, fun c hc => Nat.lt_of_lt_of_le (h.pl c hc) kW.size⟩

/-- A block that is new is kept from now on. -/
theorem MO.guard {P : Nat → Prop} {M T : Nat} {Lr : List Value} {V0 : World} {nc nd : Nat} {Cx Dx : Fo} {nm : ByteArray} {vars : Int} {k : Nat} {N : Fo} {pc pd na : Option Addr} {qc qd ncap : Nat} {C D : Fo} {V W : World} (h : MO P M Lr V0 nc nd Cx Dx nm vars k N pc pd na qc qd ncap C D V) (kW : Kept (fun _ => True) V W) (hT : V.heap.size ≤ T) (hT2 : T < W.heap.size) :
    MO (fun c => P c ∨ c = T) M Lr W nc nd Cx Dx nm vars k N pc pd na qc qd ncap C D W := ⟨h.bm.kept kW trivial, (h.hp.more hT).keep kW, h.sc, h.sd, h.dl, Kept.refl _ _, .inl h.pm, fun c hc => by rcases hc with hc | hc; exact Nat.lt_of_lt_of_le (h.pl c hc) kW.size; omega⟩

theorem MP.less {P Q : Nat → Prop} {M : Nat} {Lr : List Value} {V0 : World} {nc nd : Nat} {Cx Dx : Fo} {pc pd : Option Addr} {qc qd : Nat} {C D : Fo} {V : World} (h : MP P M Lr V0 nc nd Cx Dx pc pd qc qd C D V) (hQ : ∀ c, Q c → P c) (hM : Q M) :
    MP Q M Lr V0 nc nd Cx Dx pc pd qc qd C D V := ⟨h.bm, h.hp.mono (fun c _ hp hq => hp (hQ c hq)), h.sc, h.sd, h.dl, h.kp.mono (fun c _ hc => ⟨hQ c hc.1, hc.2⟩), hM, fun c hc => h.pl c (hQ c hc)⟩

/-- One data more. -/
theorem more_end {P : Nat → Prop} {M : Nat} {Lr : List Value} {V0 V wc w5 : World} {nc nd : Nat} {Cx Dx : Fo} {nm : ByteArray} {vars : Int} {pc pd : Option Addr} {qc qd g cap : Nat} {C D : Fo} (h : MP P M Lr V0 nc nd Cx Dx pc pd qc qd C D V) (k : Kept (fun _ => True) V wc) (hG : wc.grownBy w5 (Value.slice pd nd qd).ownBlock)
    (hO : w5.ownsRow 0 124 3 (.slice (some ⟨g, 0, none⟩) (nd + 1) cap) (nd + 1) (D.vals ++ [.string nm, .int .i64 vars, .slice none 0 0])) (hat : (Value.slice pd nd qd).ownBlock = some g ∨ g = wc.heap.size) {T : Nat} {L : List Value} (bt : Bx wc T L) (hT2 : V.heap.size ≤ T) :
    (∀ W, W = w5.setCell ⟨M, 1, none⟩ (.slice (some ⟨g, 0, none⟩) (nd + 1) cap) → (∀ W', Kept (fun c => c ≠ T) W W' → MO P M Lr V0 nc nd Cx Dx nm vars 0 .nil pc (some ⟨g, 0, none⟩) none qc cap 0 C D W') ∧ Bx W T L) ∧ Bx w5 M (.slice pc nc qc :: .slice pd nd qd :: Lr) := by
  have hM := h.bm.lt
  have hTl := bt.lt
  have hPl : ∀ c, (P c ∨ c = T) → c < wc.heap.size := fun c hc => by
    have := k.size
    rcases hc with hc | hc
    · have := h.pl c hc; omega
    · omega
  have h0 := (h.hp.more (b := T) hT2).keep k
  have h1 := (((h0.perm (perm_b _ _ _)).plain (.v (.string nm) (.v (.int .i64 vars) (.v (.slice none 0 0) .nil))) (fun _ _ => trivial) rfl).perm (perm_b _ _ _))
  obtain ⟨h3, k3⟩ := h1.grow hPl hG hO (by
    rcases hat with e | e
    · exact .inl e.symm
    · rw [e]; exact .inr rfl)
  have hob : ∀ c, (P c ∨ c = T) → (Value.slice pd nd qd).ownBlock ≠ some c := fun c hc e => h1.fr c (by rw [bls_cons]; exact List.mem_append.2 (.inl (List.mem_append.2 (.inl (mem_ob.2 e))))) hc
  have kk : Kept (fun c => (Value.slice pd nd qd).ownBlock ≠ some c) V w5 := (k.mono (fun _ _ _ => trivial)).trans k3
  have m5 := h.bm.kept kk (hob M (.inl h.pm))
  refine ⟨fun W hW => ?_, m5⟩
  subst hW
  have ks : Kept (fun c => c ≠ M) w5 (w5.setCell ⟨M, 1, none⟩ (.slice (some ⟨g, 0, none⟩) (nd + 1) cap)) := Kept.setCell _ _ _ _ (by simp)
  have h4 := ((h3.put ⟨M, 1, none⟩ (.slice (some ⟨g, 0, none⟩) (nd + 1) cap) (.inl h.pm))).empty 9 1
  refine ⟨fun W' kW => ⟨(m5.put 1 _ (by simp)).kept kW (by omega), ?_, h.sc, h.sd, h.dl, ?_, h.pm, fun c hc => by have := h.pl c hc; have := kk.size; have := ks.size; have := kW.size; omega⟩, (bt.kept k3 (hob T (.inr rfl))).kept ks (by omega)⟩
  · have h5 := (h4.kept kW (fun c hc e => h4.fr c hc (.inr e))).mono (Q := P) (fun c _ hp hq => hp (.inl hq))
    exact (h5.perm (rot3 _ _ _).symm).perm (perm_b _ _ _)
  · exact ((h.kp.trans (kk.mono (fun c _ hc => hob c (.inl hc.1)))).trans (ks.mono (fun c _ hc => hc.2))).trans (kW.mono (fun c _ hc => by have := h.pl c hc.1; omega))

set_option maxHeartbeats 4000000 in
set_option maxRecDepth 100000 in
theorem m_more {P : Nat → Prop} {M : Nat} {Lr : List Value} {V0 V : World} {nc nd : Nat} {Cx Dx : Fo} {pc pd : Option Addr} {qc qd : Nat} {C D : Fo} (h : MP P M Lr V0 nc nd Cx Dx pc pd qc qd C D V) (nm : ByteArray) (vars : Int) (hnd : nd ≤ 1000) :
    Calls Try.prog 29 #[.pointer (some ⟨M, 0, none⟩), .string nm, .int .i64 vars] V fun e V' => ∃ pd' qd', e = .returned (.agg #[.pointer (some ⟨M, 0, none⟩), .int .i64 nd]) ∧ Hid (MO P M Lr V0 nc nd Cx Dx nm vars 0 .nil pc pd' none qc qd' 0 C D V') := by
  obtain ⟨V1, hV1⟩ : ∃ V1, V.alloc (.cells #[.pointer none, .int .i64 0] 62) = V1 := ⟨_, rfl⟩
  have HK1 : Hid (Kept (fun _ => True) V V1) := by unfold Hid; rw [← hV1]; exact Kept.alloc _ _ _
  have HB1 : Hid (Bx V1 V.heap.size [.pointer none, .int .i64 0]) := by unfold Hid; rw [← hV1]; exact Bx.new _ _ _
  have HH := hide h
  have m1 : V1.cell? ⟨M, 1, none⟩ = some (.slice pd nd qd) := (h.bm.kept HK1.out trivial).cel 1 _ rfl
  have HO : Hid (∀ W, Kept (fun _ => True) V W → W.ownsRow 0 124 3 (.slice pd nd qd) nd D.vals) := fun W k => ownsRow_kept ((h.hp.perm (perm_b _ _ _)).ok _ List.mem_cons_self).1 k (fun _ _ => trivial)
  have h63 : Hid (nd + 1 ≤ maxLen ∧ (nd + 1) * 48 ≤ 140737488355328) := ⟨by unfold maxLen; omega, by omega⟩
  have HE : Hid (∀ w5 g cap, (V1.alloc (.cells #[.string nm, .int .i64 vars, .slice none 0 0] 124)).grownBy w5 (Value.slice pd nd qd).ownBlock → w5.ownsRow 0 124 3 (.slice (some ⟨g, 0, none⟩) (nd + 1) cap) (nd + 1) (D.vals ++ [.string nm, .int .i64 vars, .slice none 0 0]) → ((Value.slice pd nd qd).ownBlock = some g ∨ g = (V1.alloc (.cells #[.string nm, .int .i64 vars, .slice none 0 0] 124)).heap.size) → _) :=
    fun w5 g cap hG hO hat => more_end HH.out (HK1.out.trans (Kept.alloc _ _ _)) hG hO hat (HB1.out.kept (Kept.alloc (fun _ => True) _ _) trivial) (Nat.le_refl _)
  have hne : ¬ M = V.heap.size := by have := h.bm.lt; omega
  have HV1 := hide hV1
  clear h hV1
  go_enter Try.func29, Try.ntmps29
  go_upto_region 1 with fail
  rw [HV1.out]
  clear HV1
  go_upto_region 2 with (at_builtin; refine ur_stepL rfl _ _ 23 124 rfl Try.info124 Try.underlying23 rfl (by decide) 0 (V1.alloc (.cells #[.string nm, .int .i64 vars, .slice none 0 0] 124)) (.slice pd nd qd) nd D.vals [.string nm, .int .i64 vars, .slice none 0 0] _ _ rfl rfl (Nat.zero_le _) (HO.out _ (HK1.out.trans (Kept.alloc _ _ _))) (heap_new _ _) rfl (by simp [Value.oneCell']) h63.out.1 h63.out.2 ?_; intro g7 c7 w3 hO7 hG7 hat7; obtain ⟨ha7, q7⟩ := HE.out w3 g7 c7 hG7 hO7 hat7; have r2 := q7.cel 1 _ rfl; have f2 := q7.live 1; have HA7 := hide ha7; clear hO7 hG7 hat7 ha7 q7)
  obtain ⟨w4, hw4⟩ : ∃ w4, w3.setCell ⟨M, 1, none⟩ (.slice (some ⟨g7, 0, none⟩) (nd + 1) c7) = w4 := ⟨_, rfl⟩
  obtain ⟨h4, bt4⟩ := HA7.out w4 hw4.symm
  rw [hw4]
  have H4 := hide h4
  have n1 : w4.cell? ⟨M, 1, none⟩ = some (.slice (some ⟨g7, 0, none⟩) (nd + 1) c7) := (h4 w4 (Kept.refl _ _)).bm.cel 1 _ rfl
  have t0 := bt4.cel 0 _ rfl
  have t1 := bt4.cel 1 _ rfl
  have f0 := bt4.live 0
  have f1 := bt4.live 1
  clear hw4 h4 bt4 HA7 r2 f2 m1
  go_wp2_with fail
  refine bodyPost_ret (v := .agg #[.pointer (some ⟨M, 0, none⟩), .int .i64 nd]) (by simp [results, Try.results29, go_sem, t0, t1]) rfl ⟨_, _, rfl, H4.out _ ?_⟩
  repeat first | (with_reducible refine Kept.set ?_ (by simp)) | with_reducible exact Kept.refl _ _

end Go.Proofs.Ytkjbkmhmghmodaa
