import Derived.Test.YtcflciblcdabpaaKa
import Derived.Test.YtcflciblcdabpaaUv
import Derived.Deep.RegionLaw
namespace Go.Proofs.Ytcflciblcdabpaa
open Go.RowKit Go.Joins

theorem Try.info53 : (Try.prog.info? 53).map (fun i => (i.zero, i.size, i.bytes)) = some (some (.agg #[.int .i64 0, .int .i64 0, .string ⟨#[]⟩, .slice none 0 0]), 4, 56) := by kernel_rfl

theorem app_sizes : ∀ x q : Fo, (x.app q).size = x.size + q.size
  | .nil, q => by simp [Fo.app, Fo.size]
  | .v _ r, q => by have := app_sizes r q; simp only [Fo.app, Fo.size]; omega
  | .s _ _ _ _ r, q => by have := app_sizes r q; simp only [Fo.app, Fo.size]; omega

theorem app_assoc : ∀ x y z : Fo, (x.app y).app z = x.app (y.app z)
  | .nil, _, _ => rfl
  | .v _ r, y, z => by simp only [Fo.app, app_assoc r y z]
  | .s _ _ _ _ r, y, z => by simp only [Fo.app, app_assoc r y z]

theorem sim_app : ∀ {x x' : Fo} {y y' : Fo}, x.sim x' → y.sim y' → (x.app y).sim (x'.app y')
  | .nil, .nil, _, _, _, h => h
  | .v _ r, .v _ q, _, _, h, h2 => ⟨h.1, sim_app (x := r) (x' := q) h.2 h2⟩
  | .s _ _ _ _ r, .s _ _ _ _ q, _, _, h, h2 => ⟨h.1, h.2.1, sim_app (x := r) (x' := q) h.2.2 h2⟩
  | .nil, .v _ _, _, _, h, _ => h.elim
  | .nil, .s _ _ _ _ _, _, _, h, _ => h.elim
  | .v _ _, .nil, _, _, h, _ => h.elim
  | .v _ _, .s _ _ _ _ _, _, _, h, _ => h.elim
  | .s _ _ _ _ _, .nil, _, _, h, _ => h.elim
  | .s _ _ _ _ _, .v _ _, _, _, h, _ => h.elim

/-- What a round of the copy knows. -/
structure CpI (W wr : World) (k ix : Int) (nm : ByteArray) (a : Option Addr) (n c i : Nat) (K r D : Fo) (m : Nat) (pa : Option Addr) (pc : Nat) : Prop where
  sp : ∃ Kd : Fo, K = Kd.app r ∧ D.sim Kd
  sz : r.size ≤ m
  wt : r.wt ≤ 1048576
  b0 : Bx wr W.heap.size [.int .i64 k, .int .i64 ix, .string nm, .slice a n c]
  b1 : Bx wr (W.heap.size + 1) [.int .i64 0, .int .i64 0, .string ⟨#[]⟩, .slice none 0 0]
  b2 : Bx wr (W.heap.size + 1 + 1) [.int .i64 k, .int .i64 ix, .string nm, .slice pa i pc]
  hp : Hp (fun c => c < W.heap.size + 3) [.row 53 4 (.slice pa i pc) i D] wr
  be : Below W.heap.size W wr
  gs : W.heap.size + 3 ≤ wr.heap.size

set_option maxHeartbeats 2000000 in
set_option maxRecDepth 100000 in
theorem l8copy : ∀ m, ToC Try.prog E 18 (E 2) m := by
  intro m
  induction m with
  | zero =>
    intro F n0 W hm hf hn hwt hs
    have e : F = .nil := Fo.len_zero (by have := F.len_le; omega)
    subst e
    exact absurd hf (by simp [E, Fit])
  | succ m ih =>
    intro F n0 W hm hf hn hwt hs
    replace hf : Fit E F [.i, .i, .t, .s 2] := hf
    obtain ⟨k, F0, rfl, hk, hf⟩ := fit_i hf
    obtain ⟨ix, F1, rfl, hix, hf⟩ := fit_i hf
    obtain ⟨nm, F2, rfl, hnm, hf⟩ := fit_t hf
    obtain ⟨a, n, c, K, F3, rfl, hK, hf⟩ := fit_s hf
    obtain rfl := fit_nil hf
    have hsK : K.Sub W (fun c => c < n0) a n c := hs.1
    simp only [Fo.wt, textSize] at hwt
    simp only [Fo.size] at hm
    have hmx : n ≤ 9223372036854775807 := by omega
    obtain ⟨V0, hV0⟩ : ∃ V, ((W.alloc (.cells #[.int .i64 k, .int .i64 ix, .string nm, .slice a n c] 53)).alloc (.cells #[.int .i64 0, .int .i64 0, .string ⟨#[]⟩, .slice none 0 0] 53)).alloc (.cells #[.int .i64 k, .int .i64 ix, .string nm, .slice none 0 0] 53) = V := ⟨_, rfl⟩
    have HI0 : Hid (CpI W V0 k ix nm a n c 0 K K .nil m none 0) := by
      have z0 : V0.heap.size = W.heap.size + 1 + 1 + 1 := by rw [← hV0]; simp
      have kt3 : Kept (fun _ => True) W V0 := by rw [← hV0]; exact ((Kept.alloc _ _ _).trans (Kept.alloc _ _ _)).trans (Kept.alloc _ _ _)
      refine ⟨⟨.nil, rfl, trivial⟩, by omega, by omega, ?_, ?_, ?_, (Hp.nil _ _).empty _ _, kt3.below (fun _ _ => trivial) (Nat.le_refl _), by omega⟩
      · rw [← hV0]
        exact ((Bx.new _ _ _).kept (Kept.alloc (fun _ => True) _ _) trivial).kept (Kept.alloc (fun _ => True) _ _) trivial
      · rw [← hV0]
        have := Bx.new (W.alloc (.cells #[.int .i64 k, .int .i64 ix, .string nm, .slice a n c] 53)) [.int .i64 0, .int .i64 0, .string ⟨#[]⟩, .slice none 0 0] 53
        rw [World.size_alloc] at this
        exact this.kept (Kept.alloc (fun _ => True) _ _) trivial
      · rw [← hV0]
        have := Bx.new ((W.alloc (.cells #[.int .i64 k, .int .i64 ix, .string nm, .slice a n c] 53)).alloc (.cells #[.int .i64 0, .int .i64 0, .string ⟨#[]⟩, .slice none 0 0] 53)) [.int .i64 k, .int .i64 ix, .string nm, .slice none 0 0] 53
        rwa [World.size_alloc, World.size_alloc] at this
    have HR := hide (Rd.start hK hsK)
    have HN := hide hn
    have HV0 := hide hV0
    have HIH := hide ih
    have HNL : Hid (n ≤ 1048576) := by show _ ≤ _; omega
    clear hV0 hsK hs hK hn hwt hm ih
    simp only [Fo.vals]
    go_enter Try.func18, Try.ntmps18
    go_upto_region 2 with fail
    rw [HV0.out]
    clear HV0
    go_wp2_with fail
    go_loopw [4] (fun s4 wr => ∃ (i : Nat) (r D : Fo) (pa : Option Addr) (pc : Nat), s4 = .int .i64 i ∧ i ≤ n ∧ Hid (CpI W wr k ix nm a n c i K r D m pa pc) ∧ Hid (Rd E (E 2) n n0 a i r W)) (fun s4 _ => n - (intOf s4).toNat)
    case atStart => exact ⟨0, K, .nil, none, 0, rfl, Nat.zero_le _, HI0, HR⟩
    case round =>
      obtain ⟨i, r, D, pa, pc, rfl, hin, hI, hR⟩ := hrel
      have u3 := hI.out.b0.cel 3 _ rfl
      by_cases hi : i < n
      · obtain ⟨x, q, b, o, rfl, hx, rfl, hb, hc, hxs, hR1⟩ := hR.out.next hi (by decide)
        have hii : (i : Int) < n := by omega
        have hnn := HN.out
        have hrs := hI.out.sz
        have hrw := hI.out.wt
        rw [app_sizes] at hrs
        rw [Fo.app_wt] at hrw
        have hxs0 := hxs
        have hx0 := hx
        replace hx : Fit E x [.i, .i, .t, .s 2] := hx
        obtain ⟨k', G0, rfl, -, hx⟩ := fit_i hx
        obtain ⟨ix', G1, rfl, -, hx⟩ := fit_i hx
        obtain ⟨nm', G2, rfl, -, hx⟩ := fit_t hx
        obtain ⟨ka, kn, kc, K', G3, rfl, -, hx⟩ := fit_s hx
        obtain rfl := fit_nil hx
        replace hc := hc.below hI.out.be (by omega)
        have y0 : wr.cell? ⟨b, o + i * 4, none⟩ = some (.int .i64 k') := hc 0 _ rfl
        have y1 : wr.cell? ⟨b, o + i * 4 + 1, none⟩ = some (.int .i64 ix') := hc 1 _ rfl
        have y2 : wr.cell? ⟨b, o + i * 4 + 2, none⟩ = some (.string nm') := hc 2 _ rfl
        have y3 : wr.cell? ⟨b, o + i * 4 + 3, none⟩ = some (.slice ka kn kc) := hc 3 _ rfl
        have HCB : Hid (∀ V, Kept (fun _ => True) wr V → Calls Try.prog 18 #[.agg #[.int .i64 k', .int .i64 ix', .string nm', .slice ka kn kc]] V fun e w5 => ∃ v, e = .returned v ∧ ∃ (pg : Option Addr) (pcg : Nat) (GK : Fo), v = .agg #[.int .i64 k', .int .i64 ix', .string nm', .slice pg kn pcg] ∧ Hid ((Fo.v (.int .i64 k') (.v (.int .i64 ix') (.v (.string nm') (.s pg kn pcg GK .nil)))).sim (.v (.int .i64 k') (.v (.int .i64 ix') (.v (.string nm') (.s ka kn kc K' .nil)))) ∧ Own wr.heap.size w5 (Fo.v (.int .i64 k') (.v (.int .i64 ix') (.v (.string nm') (.s pg kn pcg GK .nil)))) ∧ Kept (fun _ => True) wr w5)) := fun V hV => by
          have hb1 : Below W.heap.size W V := Below.kept hI.out.be hV (fun _ _ => trivial) (Nat.le_refl _)
          refine (HIH.out _ n0 V (by omega) hx0 (Nat.le_trans hnn hb1.size) (by omega) (hxs0.below hb1 (fun c hc => Nat.lt_of_lt_of_le hc hnn))).mono ?_
          rintro e w5 ⟨G, rfl, g1, g2, g3⟩
          obtain ⟨u0, rfl, s1⟩ := Fo.sim_v g1
          obtain ⟨u1, rfl, s2⟩ := Fo.sim_v s1
          obtain ⟨u2, rfl, s3⟩ := Fo.sim_v s2
          obtain ⟨pg, pcg, GK, u3, rfl, s4, s5⟩ := Fo.sim_s s3
          obtain rfl := Fo.sim_nil s5
          exact ⟨_, rfl, pg, pcg, GK, rfl, g1, ⟨g3.subs.mono (fun c hc => ⟨Nat.le_trans hV.size hc.1, hc.2⟩), g3.nodup, g3.live⟩, hV.trans (kt g2)⟩
        have hrow := hI.out.hp.ok _ List.mem_cons_self
        have HOW : Hid (∀ V, Kept (fun _ => True) wr V → V.ownsRow 0 53 4 (.slice pa i pc) i D.vals) := fun V hV => ownsRow_kept hrow.1 hV (fun _ _ => trivial)
        have HNE : Hid (∀ c, (Value.slice pa i pc).ownBlock = some c → ¬ c < W.heap.size + 3) := fun c hc => hI.out.hp.fr c (List.mem_append.2 (.inl (List.mem_append.2 (.inl (mem_ob.2 hc)))))
        have HSG : Hid (∀ w5 w7 ob, Kept (fun _ => True) wr w5 → (w5.alloc ob).grownBy w7 (Value.slice pa i pc).ownBlock → Kept (fun c => c < W.heap.size + 3) wr w7) := fun w5 w7 ob k5 hG => ((k5.al).mono (fun _ _ _ => trivial)).trans (Kept.grown hG (fun c e h => HNE.out c e h))
        have FIN : Hid (∀ w5 pg pcg GK g7 cp w7, Hid ((Fo.v (.int .i64 k') (.v (.int .i64 ix') (.v (.string nm') (.s pg kn pcg GK .nil)))).sim (.v (.int .i64 k') (.v (.int .i64 ix') (.v (.string nm') (.s ka kn kc K' .nil)))) ∧ Own wr.heap.size w5 (Fo.v (.int .i64 k') (.v (.int .i64 ix') (.v (.string nm') (.s pg kn pcg GK .nil)))) ∧ Kept (fun _ => True) wr w5) → w7.ownsRow 0 53 4 (.slice (some ⟨g7, 0, none⟩) (i + 1) cp) (i + 1) (D.vals ++ [.int .i64 k', .int .i64 ix', .string nm', .slice pg kn pcg]) → (w5.alloc (.cells #[.int .i64 k', .int .i64 ix', .string nm', .slice pg kn pcg] 53)).grownBy w7 (Value.slice pa i pc).ownBlock → ((Value.slice pa i pc).ownBlock = some g7 ∨ g7 = (w5.alloc (.cells #[.int .i64 k', .int .i64 ix', .string nm', .slice pg kn pcg] 53)).heap.size) → CpI W (w7.setCell ⟨W.heap.size + 1 + 1, 3, none⟩ (.slice (some ⟨g7, 0, none⟩) (i + 1) cp)) k ix nm (some ⟨b, o, none⟩) n c (i + 1) K q (D.app (Fo.v (.int .i64 k') (.v (.int .i64 ix') (.v (.string nm') (.s pg kn pcg GK .nil))))) m (some ⟨g7, 0, none⟩) cp) := fun w5 pg pcg GK g7 cp w7 h5 hO hG hat => by
          obtain ⟨hsim, hown, k5⟩ := h5.out
          have hgs := hI.out.gs
          have k7 := HSG.out w5 w7 _ k5 hG
          have ksA : Kept (fun _ => True) w5 (w5.alloc (.cells #[.int .i64 k', .int .i64 ix', .string nm', .slice pg kn pcg] 53)) := Kept.alloc _ _ _
          have hz5 := k5.size
          have hz7 := k7.size
          have hoA : Own wr.heap.size (w5.alloc (.cells #[.int .i64 k', .int .i64 ix', .string nm', .slice pg kn pcg] 53)) (Fo.v (.int .i64 k') (.v (.int .i64 ix') (.v (.string nm') (.s pg kn pcg GK .nil)))) := hown.kept ksA (fun _ _ _ => trivial)
          have hpA := (hI.out.hp.keep (k5.trans ksA)).of_own hoA (fun c hc => by omega) (fun c hc => hI.out.hp.lt hc)
          have hpB := hpA.perm (List.Perm.swap _ _ _)
          have hpC := (hpB.grow (v' := .slice (some ⟨g7, 0, none⟩) (i + 1) cp) (m := i + 1) (fun c hc => by have := ksA.size; omega) hG hO (hat.elim (fun e => .inl e.symm) (fun e => .inr (congrArg some e)))).1
          have ks : Kept (fun c => c ≠ W.heap.size + 1 + 1) w7 (w7.setCell ⟨W.heap.size + 1 + 1, 3, none⟩ (.slice (some ⟨g7, 0, none⟩) (i + 1) cp)) := Kept.setCell _ _ _ _ (by simp)
          obtain ⟨Kd, hKd, hDs⟩ := hI.out.sp
          refine ⟨⟨Kd.app (.v (.int .i64 k') (.v (.int .i64 ix') (.v (.string nm') (.s ka kn kc K' .nil)))), ?_, sim_app hDs hsim⟩, by omega, by omega, ?_, ?_, ?_, hpC.put _ _ (by show _ < _; simp), ?_, ?_⟩
          · rw [app_assoc]
            exact hKd
          · exact (hI.out.b0.kept k7 (by omega)).kept ks (by omega)
          · exact (hI.out.b1.kept k7 (by omega)).kept ks (by omega)
          · exact (hI.out.b2.kept k7 (by omega)).put 3 _ (by simp)
          · exact Below.kept (Below.kept hI.out.be k7 (fun c hc => by omega) (Nat.le_refl _)) ks (fun c hc => by omega) (Nat.le_refl _)
          · have := ks.size
            omega
        have HQ2 := hide hI.out.b2
        have p3 := HQ2.out.cel 3 _ rfl
        have HR1 := hide hR1
        have HLN : Hid (i + 1 ≤ maxLen ∧ (i + 1) * 56 ≤ 140737488355328) := by have := HNL.out; exact ⟨by unfold maxLen; omega, by omega⟩
        clear hc hxs hxs0 hx0 hx hrs hrw hrow hR hR1 hnn hI hb
        go_wp2_with fail
        go_region_law (first
          | (refine step_call (by rfl) 18 #[.agg #[.int .i64 k', .int .i64 ix', .string nm', .slice ka kn kc]] (by simp [go_sem]) _ (HCB.out _ ⟨rfl, rfl, rfl, Nat.le_refl _, fun _ _ _ => rfl⟩) ?_; rintro v5 w5 ⟨pg, pcg, GK, rfl, h5⟩; have HK5 := hide h5.out.2.2; have q5 := HQ2.out.kept HK5.out trivial; have p5 := q5.cel 3 _ rfl; have l5 := q5.live 3; have p6 := (q5.kept (Kept.alloc (fun _ => True) _ (.cells #[.int .i64 k', .int .i64 ix', .string nm', .slice pg kn pcg] 53)) trivial).cel 3 _ rfl; clear q5)
          | (refine ur_draw (by rfl) _ _ 30 53 (by rfl) Try.info53 Try.underlying30 rfl (by decide) 0 _ (.slice pa i pc) i D.vals [.int .i64 k', .int .i64 ix', .string nm', .slice pg kn pcg] _ 1 (by rfl) (HOW.out _ HK5.out.al) (by rfl) (heap_new _ _) (Nat.zero_le _) rfl (by simp [Value.oneCell']) HLN.out.1 HLN.out.2 ?_; intro g7 cp w7 hO7 hG7 hat7; have q7 := HQ2.out.kept (HSG.out _ _ _ HK5.out hG7) (by omega); have p7 := q7.cel 3 _ rfl; have l7 := q7.live 3; clear q7)
          | fail)
        all_goals
          have HF := hide (FIN.out _ _ _ _ _ _ _ h5 hO7 hG7 hat7)
          clear hO7 hG7 hat7 h5 HK5
          go_wp2_with fail
          go_roundw
          case rel => exact ⟨i + 1, q, _, _, _, by go_num, by omega, HF, HR1⟩
          case measure => simp [intOf]; omega
      · obtain ⟨rfl, rfl⟩ := hR.out.done hi
        have m0 := hI.out.b1.cel 0 _ rfl
        have m1 := hI.out.b1.cel 1 _ rfl
        have m2 := hI.out.b1.cel 2 _ rfl
        have m3 := hI.out.b1.cel 3 _ rfl
        have l0 := hI.out.b1.live 0
        have l1 := hI.out.b1.live 1
        have l2 := hI.out.b1.live 2
        have l3 := hI.out.b1.live 3
        have r0 := hI.out.b2.cel 0 _ rfl
        have r1 := hI.out.b2.cel 1 _ rfl
        have r2 := hI.out.b2.cel 2 _ rfl
        have r3 := hI.out.b2.cel 3 _ rfl
        have HI := hide hI.out
        clear hI hR
        go_wp2_with fail
        refine bodyPost_ret (v := .agg #[.int .i64 k, .int .i64 ix, .string nm, .slice pa i pc]) (by simp [results, Try.results18, go_sem, m0, m1, m2, m3]) rfl ⟨.v (.int .i64 k) (.v (.int .i64 ix) (.v (.string nm) (.s pa i pc D .nil))), rfl, ?_, ?_⟩
        · obtain ⟨Kd, e, hsim⟩ := HI.out.sp
          rw [Fo.app_nil] at e
          subst e
          exact ⟨rfl, rfl, rfl, rfl, hsim, trivial⟩
        · refine (fun (V : World) (kV : Kept (fun c => c ≠ W.heap.size + 1) wr V) => (?_ : Below W.heap.size W V ∧ Own W.heap.size V (.v (.int .i64 k) (.v (.int .i64 ix) (.v (.string nm) (.s pa i pc D .nil)))))) _ ?_
          · refine ⟨Below.kept HI.out.be kV (fun c hc => by omega) (Nat.le_refl _), ?_⟩
            have h1 := HI.out.hp.kept kV (fun c hc e => HI.out.hp.fr c hc (by omega))
            obtain ⟨a', cap', e, h2⟩ := h1.shut
            simp only [Value.slice.injEq, true_and] at e
            obtain ⟨rfl, rfl⟩ := e
            exact (((h2.v (.string nm)).v (.int .i64 ix)).v (.int .i64 k)).own (fun c hc => by omega)
          · repeat first | (with_reducible refine Kept.set ?_ (by simp)) | with_reducible exact Kept.refl _ _

end Go.Proofs.Ytcflciblcdabpaa

namespace Go.Proofs.Ytcflciblcdabpaa
open Go.RowKit Go.Joins

def tabs : List Fld := [.s 3, .s 4, .s 7, .s 1, .s 6]
def zeroC : Fo := .v (.string ⟨#[]⟩) (.v (.string ⟨#[]⟩) (.v (.int .i64 0) (.v (.int .i64 0) (.s none 0 0 .nil .nil))))

/-- The first constructor of a name. -/
def findC (c : ByteArray) : Fo → Fo
  | .v (.string x) (.v y (.v z (.v w (.s a n cap ks r)))) => if x = c then .v (.string x) (.v y (.v z (.v w (.s a n cap ks .nil)))) else findC c r
  | _ => zeroC

def findCT (c : ByteArray) : Fo → Fo
  | .s _ _ _ ks _ => findC c ks
  | _ => zeroC

/-- What a round over the fields knows. -/
structure CfI (lo : Nat) (V wx : World) (j : Nat) (K r D : Fo) (pa : Option Addr) (pc : Nat) : Prop where
  sp : ∃ Kd : Fo, K = Kd.app r ∧ D.sim Kd
  wt : r.wt ≤ 1048576
  hp : Hp (fun c => c < lo) [.row 53 4 (.slice pa j pc) j D] wx
  kp : Kept (fun c => c < lo) V wx
  lv : lo ≤ V.heap.size

set_option maxHeartbeats 2000000 in
set_option maxRecDepth 100000 in
theorem m_FindCon (F : Fo) (c : ByteArray) (W : World) (hf : Fit E F tabs) (hwt : F.wt ≤ 1048576) (hs : F.Subs W (fun c => c < W.heap.size)) :
    Calls Try.prog 5 #[.agg F.vals.toArray, .string c] W fun e W' => ∃ R : Fo, e = .returned (.agg R.vals.toArray) ∧ R.sim (findCT c F) ∧ Below W.heap.size W W' ∧ R.Subs W' (fun c => c < W'.heap.size) := by
  obtain ⟨a0, n0, c0, k0, F0, rfl, hf0, hf⟩ := fit_s hf
  obtain ⟨a1, n1, c1, k1, F1, rfl, -, hf⟩ := fit_s hf
  obtain ⟨a2, n2, c2, k2, F2, rfl, -, hf⟩ := fit_s hf
  obtain ⟨a3, n3, c3, k3, F3, rfl, -, hf⟩ := fit_s hf
  obtain ⟨a4, n4, c4, k4, F4, rfl, -, hf⟩ := fit_s hf
  obtain rfl := fit_nil hf
  have hs0 : Fo.Sub W (fun c => c < W.heap.size) a0 n0 c0 k0 := hs.1
  simp only [Fo.wt] at hwt
  simp only [Fo.vals, findCT]
  have hmx : n0 ≤ 9223372036854775807 := by omega
  have hwt0 : k0.wt ≤ 1048576 := by omega
  obtain ⟨V0, hV0⟩ : ∃ V0, (W.alloc (.cells #[.slice a0 n0 c0, .slice a1 n1 c1, .slice a2 n2 c2, .slice a3 n3 c3, .slice a4 n4 c4] 40)).alloc (.cells #[.string ⟨#[]⟩, .string ⟨#[]⟩, .int .i64 0, .int .i64 0, .slice none 0 0] 32) = V0 := ⟨_, rfl⟩
  have b0 : Below W.heap.size W V0 := by rw [← hV0]; exact below_alloc2 _ _ _
  have z0 : V0.heap.size = W.heap.size + 1 + 1 := by rw [← hV0]; simp
  have q1 : Bx V0 W.heap.size [.slice a0 n0 c0, .slice a1 n1 c1, .slice a2 n2 c2, .slice a3 n3 c3, .slice a4 n4 c4] := by
    rw [← hV0]
    exact (Bx.new _ _ _).kept (Kept.alloc (fun _ => True) _ _) trivial
  have q2 : Bx V0 (W.heap.size + 1) [.string ⟨#[]⟩, .string ⟨#[]⟩, .int .i64 0, .int .i64 0, .slice none 0 0] := by
    rw [← hV0]
    have := Bx.new (W.alloc (.cells #[.slice a0 n0 c0, .slice a1 n1 c1, .slice a2 n2 c2, .slice a3 n3 c3, .slice a4 n4 c4] 40)) [.string ⟨#[]⟩, .string ⟨#[]⟩, .int .i64 0, .int .i64 0, .slice none 0 0] 32
    rwa [World.size_alloc] at this
  have HR := hide ((Rd.start hf0 hs0).below b0 (Nat.le_refl _))
  have HB0 := hide b0
  have HZ0 := hide z0
  have HQ2 := hide q2
  have HWT := hide hwt0
  have t4 : V0.cell? ⟨W.heap.size, 0, none⟩ = some (.slice a0 n0 c0) := q1.cel 0 _ rfl
  have HV0 := hide hV0
  clear hV0 b0 z0 q1 q2 hs0 hs hf0 hwt hwt0 hf
  go_enter Try.func5, Try.ntmps5
  go_wp2_with fail
  rw [HV0.out]
  clear HV0
  go_loopw [5] (fun s5 wr => ∃ (i : Nat) (r : Fo), s5 = .int .i64 i ∧ wr = V0 ∧ i ≤ n0 ∧ Hid (findC c r = findC c k0) ∧ Hid (r.wt ≤ 1048576) ∧ Hid (Rd E (E 3) n0 W.heap.size a0 i r V0)) (fun s5 _ => n0 - (intOf s5).toNat)
  case atStart => exact ⟨0, k0, rfl, rfl, Nat.zero_le _, rfl, HWT, HR⟩
  case round =>
    obtain ⟨i, r, rfl, hVV, hin, hfd, hrw, hR⟩ := hrel
    have hVV' := hVV.symm
    subst hVV'
    clear hVV
    by_cases hi : i < n0
    · obtain ⟨x, rr, b, o, rfl, hx, rfl, hb, hc, hxs, hR1⟩ := hR.out.next hi (by decide)
      have HR1 := hide hR1
      have hii : (i : Int) < n0 := by omega
      have hw := hrw.out
      rw [Fo.app_wt] at hw
      have hfe := hfd.out
      clear hR hR1 hrw hfd
      replace hx : Fit E x [.t, .t, .i, .i, .s 2] := hx
      obtain ⟨x0, F0, rfl, hx0, hx⟩ := fit_t hx
      obtain ⟨x1, F1, rfl, hx1, hx⟩ := fit_t hx
      obtain ⟨x2, F2, rfl, hx2, hx⟩ := fit_i hx
      obtain ⟨x3, F3, rfl, hx3, hx⟩ := fit_i hx
      obtain ⟨p4, m4, e4, k4', F4, rfl, hf4, hx⟩ := fit_s hx
      obtain rfl := fit_nil hx
      simp only [Fo.wt, textSize] at hw
      simp only [Fo.app, findC] at hfe
      have y0 : V0.cell? ⟨b, o + i * 5, none⟩ = some (.string x0) := hc 0 _ rfl
      have y1 : V0.cell? ⟨b, o + i * 5 + 1, none⟩ = some (.string x1) := hc 1 _ rfl
      have y2 : V0.cell? ⟨b, o + i * 5 + 2, none⟩ = some (.int .i64 x2) := hc 2 _ rfl
      have y3 : V0.cell? ⟨b, o + i * 5 + 3, none⟩ = some (.int .i64 x3) := hc 3 _ rfl
      have y4 : V0.cell? ⟨b, o + i * 5 + 4, none⟩ = some (.slice p4 m4 e4) := hc 4 _ rfl
      have HXS : Hid (Fo.Sub V0 (fun c => c < W.heap.size) p4 m4 e4 k4') := hxs.1
      have HW := hide hw
      clear hc hxs hw hx
      by_cases h1 : x0 = c
      · subst h1
        rw [if_pos rfl] at hfe
        have HFE := hide hfe
        obtain ⟨V1, hV1⟩ : ∃ V1, V0.alloc (.cells #[.string x0, .string x1, .int .i64 x2, .int .i64 x3, .slice p4 m4 e4] 32) = V1 := ⟨_, rfl⟩
        obtain ⟨V2, hV2⟩ : ∃ V2, V1.alloc (.cells #[] 53) = V2 := ⟨_, rfl⟩
        have k02 : Kept (fun _ => True) V0 V2 := by rw [← hV2, ← hV1]; exact (Kept.alloc _ _ _).trans (Kept.alloc _ _ _)
        have z1 : V1.heap.size = V0.heap.size + 1 := by rw [← hV1]; simp
        have z2 : V2.heap.size = V0.heap.size + 1 + 1 := by rw [← hV2, World.size_alloc, z1]
        have q8 : Bx V2 V0.heap.size [.string x0, .string x1, .int .i64 x2, .int .i64 x3, .slice p4 m4 e4] := by
          rw [← hV2]
          have := Bx.new V0 [.string x0, .string x1, .int .i64 x2, .int .i64 x3, .slice p4 m4 e4] 32
          rw [hV1] at this
          exact this.kept (Kept.alloc (fun _ => True) _ _) trivial
        have q6 := HQ2.out.kept k02 trivial
        have HC0 : Hid (CfI (V0.heap.size + 1) V2 V2 0 k4' k4' .nil (some ⟨V0.heap.size + 1, 0, none⟩) 0) := by
          refine ⟨⟨.nil, rfl, trivial⟩, by have := HW.out; omega, ⟨fun it hit => ?_, by simp [bls, Item.bl, ob, Value.ownBlock, Fo.inn], fun c hc => ?_⟩, Kept.refl _ _, by omega⟩
          · rw [List.mem_singleton.1 hit]
            refine ⟨⟨rfl, .inr ⟨V0.heap.size + 1, 0, #[], rfl, Nat.zero_le _, ?_, Nat.le_refl _, Nat.zero_le _, rfl, rfl⟩⟩, trivial, fun c hc => absurd hc List.not_mem_nil⟩
            rw [← hV2, ← z1]
            exact (MapKept.heap_alloc V1 _).1
          · have e : c = V0.heap.size + 1 := by simpa [bls, Item.bl, ob, Value.ownBlock, Fo.inn] using hc
            show ¬ _ < _
            omega
        have hz0 := HZ0.out
        have HRF := hide ((Rd.start hf4 HXS.out).kept k02 (by omega) (fun _ _ => trivial))
        have HBX := hide (And.intro q8 q6)
        have HV : Hid ((V0.alloc (.cells #[.string x0, .string x1, .int .i64 x2, .int .i64 x3, .slice p4 m4 e4] 32)).alloc (.cells #[] 53) = V2) := by unfold Hid; rw [hV1, hV2]
        have HK02 := hide k02
        have HM4 : Hid (m4 ≤ 1048576) := by have := HW.out; show _ ≤ _; omega
        have hm4 : m4 ≤ 9223372036854775807 := by have := HM4.out; omega
        have hne : ¬ V0.heap.size = W.heap.size + 1 := by omega
        have hne' : ¬ W.heap.size + 1 = V0.heap.size := by omega
        clear hV1 hV2 k02 z1 z2 q8 hz0 q6 hf4 hfe
        go_wp2_with fail
        go_loopw [7, 8] (fun s7 s8 wx => ∃ (j : Nat) (r D : Fo) (pa : Option Addr) (pc : Nat), s7 = .slice pa j pc ∧ s8 = .int .i64 j ∧ j ≤ m4 ∧ Hid (CfI (V0.heap.size + 1) V2 wx j k4' r D pa pc) ∧ Hid (Rd E (E 2) m4 W.heap.size p4 j r V2)) (fun _ s8 _ => m4 - (intOf s8).toNat)
        case atStart =>
          rw [HV.out]
          exact ⟨0, k4', .nil, _, 0, rfl, rfl, Nat.zero_le _, HC0, HRF⟩
        case round =>
          clear HC0 HRF y0 y1 y2 y3 y4
          obtain ⟨j, r, D, pa, pc, rfl, rfl, hjm, hI, hR⟩ := hrel
          have q9 := HBX.out.1.kept hI.out.kp (Nat.lt_succ_self _)
          have hz0 := HZ0.out
          by_cases hj : j < m4
          · obtain ⟨x, q, b', o', rfl, gx, rfl, hb', hc', hxs, hR1⟩ := hR.out.next hj (by decide)
            have u4 := q9.cel 4 _ rfl
            have hjj : (j : Int) < m4 := by omega
            have hrw := hI.out.wt
            have hlv := hI.out.lv
            rw [Fo.app_wt] at hrw
            have hx0 := gx
            replace gx : Fit E x [.i, .i, .t, .s 2] := gx
            obtain ⟨k', G0, rfl, -, gx⟩ := fit_i gx
            obtain ⟨ix', G1, rfl, -, gx⟩ := fit_i gx
            obtain ⟨nm', G2, rfl, -, gx⟩ := fit_t gx
            obtain ⟨ka, kn, kc, K', G3, rfl, -, gx⟩ := fit_s gx
            obtain rfl := fit_nil gx
            have hc2 := hc'.kept hI.out.kp (by omega) (show b' < _ by omega)
            have y0 : wr.cell? ⟨b', o' + j * 4, none⟩ = some (.int .i64 k') := hc2 0 _ rfl
            have y1 : wr.cell? ⟨b', o' + j * 4 + 1, none⟩ = some (.int .i64 ix') := hc2 1 _ rfl
            have y2 : wr.cell? ⟨b', o' + j * 4 + 2, none⟩ = some (.string nm') := hc2 2 _ rfl
            have y3 : wr.cell? ⟨b', o' + j * 4 + 3, none⟩ = some (.slice ka kn kc) := hc2 3 _ rfl
            have hzk := hI.out.kp.size
            have HCB : Hid (Calls Try.prog 18 #[.agg #[.int .i64 k', .int .i64 ix', .string nm', .slice ka kn kc]] wr fun e w5 => ∃ (pg : Option Addr) (pcg : Nat) (GK : Fo), e = .returned (.agg #[.int .i64 k', .int .i64 ix', .string nm', .slice pg kn pcg]) ∧ Hid ((Fo.v (.int .i64 k') (.v (.int .i64 ix') (.v (.string nm') (.s pg kn pcg GK .nil)))).sim (Fo.v (.int .i64 k') (.v (.int .i64 ix') (.v (.string nm') (.s ka kn kc K' .nil)))) ∧ Own wr.heap.size w5 (Fo.v (.int .i64 k') (.v (.int .i64 ix') (.v (.string nm') (.s pg kn pcg GK .nil)))) ∧ Kept (fun _ => True) wr w5)) := by
              refine (l8copy _ _ W.heap.size wr (Nat.le_refl _) hx0 (by omega) (by omega) (hxs.kept hI.out.kp (fun c hc => ⟨by omega, by omega⟩))).mono ?_
              rintro e w5 ⟨G, rfl, g1, g2, g3⟩
              obtain ⟨u0, rfl, s1⟩ := Fo.sim_v g1
              obtain ⟨u1, rfl, s2⟩ := Fo.sim_v s1
              obtain ⟨u2, rfl, s3⟩ := Fo.sim_v s2
              obtain ⟨pg, pcg, GK, u3, rfl, s4, s5⟩ := Fo.sim_s s3
              obtain rfl := Fo.sim_nil s5
              exact ⟨pg, pcg, GK, rfl, g1, g3, kt g2⟩
            have HI := hide hI.out
            have HR1 := hide hR1
            have HLN : Hid (j + 1 ≤ maxLen ∧ (j + 1) * 56 ≤ 140737488355328) := by have := HM4.out; exact ⟨by unfold maxLen; omega, by omega⟩
            have HRW := hide hrw
            clear hc' hc2 hxs hx0 gx hrw hR hR1 hI hb' hlv hzk q9 hz0
            go_wp2_with fail
            refine HCB.out.mono ?_
            rintro e w5 ⟨pg, pcg, GK, rfl, h5⟩
            obtain ⟨V6, hV6⟩ : ∃ V, w5.alloc (.cells #[.int .i64 k', .int .i64 ix', .string nm', .slice pg kn pcg] 53) = V := ⟨_, rfl⟩
            have k6 : Kept (fun _ => True) wr V6 := by rw [← hV6]; exact h5.out.2.2.al
            have HBL : Hid (V6.heap[w5.heap.size]? = some (.cells [.int .i64 k', .int .i64 ix', .string nm', .slice pg kn pcg].toArray 53)) := by unfold Hid; rw [← hV6]; exact (MapKept.heap_alloc w5 _).1
            have HOS : Hid (V6.ownsRow 0 53 4 (.slice pa j pc) j D.vals) := ownsRow_kept (HI.out.hp.ok _ List.mem_cons_self).1 k6 (fun _ _ => trivial)
            have HFIN : Hid (∀ g cp w3, w3.ownsRow 0 53 4 (.slice (some ⟨g, 0, none⟩) (j + 1) cp) (j + 1) (D.vals ++ [.int .i64 k', .int .i64 ix', .string nm', .slice pg kn pcg]) → V6.grownBy w3 (Value.slice pa j pc).ownBlock → ((Value.slice pa j pc).ownBlock = some g ∨ g = V6.heap.size) → CfI (V0.heap.size + 1) V2 w3 (j + 1) k4' q (D.app (Fo.v (.int .i64 k') (.v (.int .i64 ix') (.v (.string nm') (.s pg kn pcg GK .nil))))) (some ⟨g, 0, none⟩) cp) := fun g cp w3 hO hG hat => by
              obtain ⟨hsim, hown, k5⟩ := h5.out
              have hzk := HI.out.kp.size
              have hlv := HI.out.lv
              have ksA : Kept (fun _ => True) w5 V6 := by rw [← hV6]; exact Kept.alloc _ _ _
              have hz6 := k6.size
              have hoA : Own wr.heap.size V6 (Fo.v (.int .i64 k') (.v (.int .i64 ix') (.v (.string nm') (.s pg kn pcg GK .nil)))) := hown.kept ksA (fun _ _ _ => trivial)
              have hpA := (HI.out.hp.keep k6).of_own hoA (fun c hc => by omega) (fun c hc => HI.out.hp.lt hc)
              have hpB := hpA.perm (List.Perm.swap _ _ _)
              have hpC := (hpB.grow (v' := .slice (some ⟨g, 0, none⟩) (j + 1) cp) (m := j + 1) (fun c hc => by omega) hG hO (hat.elim (fun e => .inl e.symm) (fun e => .inr (congrArg some e)))).1
              have k3 : Kept (fun c => c < V0.heap.size + 1) wr w3 := (k6.mono (fun _ _ _ => trivial)).trans (Kept.grown hG (fun c e h => HI.out.hp.fr c (List.mem_append.2 (.inl (List.mem_append.2 (.inl (mem_ob.2 e))))) h))
              obtain ⟨Kd, hKd, hDs⟩ := HI.out.sp
              refine ⟨⟨Kd.app (Fo.v (.int .i64 k') (.v (.int .i64 ix') (.v (.string nm') (.s ka kn kc K' .nil)))), ?_, sim_app hDs hsim⟩, by have := HRW.out; omega, hpC, HI.out.kp.trans k3, hlv⟩
              rw [app_assoc]
              exact hKd
            have HV6 := hide hV6
            clear hV6 k6 h5 HCB
            go_upto_region 9 with (at_builtin; rw [HV6.out]; refine ur_stepL rfl _ _ 30 53 rfl Try.info53 Try.underlying30 rfl (by decide) 0 V6 (.slice pa j pc) j D.vals [.int .i64 k', .int .i64 ix', .string nm', .slice pg kn pcg] w5.heap.size 1 rfl rfl (Nat.zero_le _) HOS.out HBL.out rfl (by simp [Value.oneCell']) HLN.out.1 HLN.out.2 ?_; rintro g3 q3 w3 hO3 hG3 hat3; have HF3 := hide (HFIN.out g3 q3 w3 hO3 hG3 hat3); clear hO3 hG3 hat3)
            go_wp2_with fail
            go_roundw
            case rel => exact ⟨j + 1, q, _, _, _, rfl, by go_num, by omega, HF3, HR1⟩
            case measure => simp [intOf]; omega
          · obtain ⟨rfl, rfl⟩ := hR.out.done hj
            have q7 := HBX.out.2.kept hI.out.kp (by omega)
            have r0 := q9.cel 0 _ rfl
            have r1 := q9.cel 1 _ rfl
            have r2 := q9.cel 2 _ rfl
            have r3 := q9.cel 3 _ rfl
            have r4 := q9.cel 4 _ rfl
            have u4 := q9.live 4
            have mm0 := q7.cel 0 _ rfl
            have mm1 := q7.cel 1 _ rfl
            have mm2 := q7.cel 2 _ rfl
            have mm3 := q7.cel 3 _ rfl
            have mm4 := q7.cel 4 _ rfl
            have l0 := q7.live 0
            have l1 := q7.live 1
            have l2 := q7.live 2
            have l3 := q7.live 3
            have l4 := q7.live 4
            have HI := hide hI.out
            clear hI hR q7 q9 hz0
            go_wp2_with fail
            refine bodyPost_ret (v := .agg #[.string x0, .string x1, .int .i64 x2, .int .i64 x3, .slice pa j pc]) (by simp [results, Try.results5, go_sem, mm0, mm1, mm2, mm3, mm4]) rfl ⟨.v (.string x0) (.v (.string x1) (.v (.int .i64 x2) (.v (.int .i64 x3) (.s pa j pc D .nil)))), rfl, ?_, ?_⟩
            · obtain ⟨Kd, e, hsim⟩ := HI.out.sp
              rw [Fo.app_nil] at e
              subst e
              rw [← HFE.out]
              exact ⟨rfl, rfl, rfl, rfl, rfl, hsim, trivial⟩
            · refine (fun (V : World) (kV : Kept (fun c => c ≠ W.heap.size + 1 ∧ c ≠ V0.heap.size) wr V) => (?_ : Below W.heap.size W V ∧ Fo.Subs V (fun c => c < V.heap.size) (.v (.string x0) (.v (.string x1) (.v (.int .i64 x2) (.v (.int .i64 x3) (.s pa j pc D .nil))))))) _ ?_
              · have hz0 := HZ0.out
                refine ⟨Below.kept (Below.kept (Below.kept HB0.out HK02.out (fun _ _ => trivial) (Nat.le_refl _)) HI.out.kp (fun c hc => by omega) (Nat.le_refl _)) kV (fun c hc => by omega) (Nat.le_refl _), ?_⟩
                have h1 := HI.out.hp.kept kV (fun c hc => ⟨fun e => HI.out.hp.fr c hc (by omega), fun e => HI.out.hp.fr c hc (by omega)⟩)
                obtain ⟨a', cap', e, h2⟩ := h1.shut
                simp only [Value.slice.injEq, true_and] at e
                obtain ⟨rfl, rfl⟩ := e
                exact (h2.ok _ List.mem_cons_self).1
              · repeat first | (with_reducible refine Kept.set ?_ (by simp)) | with_reducible exact Kept.refl _ _
      · have h1' := list_ne h1
        rw [if_neg h1] at hfe
        have HFE := hide hfe
        clear hfe h1
        go_wp2_with fail
        go_roundw
        case rel => exact ⟨i + 1, rr, by go_num, trivial, by omega, HFE, (by show _ ≤ _; have := HW.out; omega), HR1⟩
        case measure => simp [intOf]; omega
    · obtain ⟨rfl, rfl⟩ := hR.out.done hi
      have hfe := hfd.out
      have HFE : Hid (zeroC = findC c k0) := hfe
      have m0 := HQ2.out.cel 0 _ rfl
      have m1 := HQ2.out.cel 1 _ rfl
      have m2 := HQ2.out.cel 2 _ rfl
      have m3 := HQ2.out.cel 3 _ rfl
      have m4 := HQ2.out.cel 4 _ rfl
      have l0 := HQ2.out.live 0
      have l1 := HQ2.out.live 1
      have l2 := HQ2.out.live 2
      have l3 := HQ2.out.live 3
      have l4 := HQ2.out.live 4
      clear hfe hR hfd hrw
      go_wp2_with fail
      refine bodyPost_ret (v := .agg #[.string ⟨#[]⟩, .string ⟨#[]⟩, .int .i64 0, .int .i64 0, .slice none 0 0]) (by simp [results, Try.results5, go_sem, m0, m1, m2, m3, m4]) rfl ⟨zeroC, rfl, ?_, ?_⟩
      · rw [← HFE.out]
        exact Fo.sim.refl _
      · refine (fun (V : World) (kV : Kept (fun c => c ≠ W.heap.size + 1) V0 V) => (?_ : Below W.heap.size W V ∧ zeroC.Subs V (fun c => c < V.heap.size))) _ ?_
        · exact ⟨Below.kept HB0.out kV (fun c hc => by omega) (Nat.le_refl _), ⟨Nat.le_refl _, Nat.zero_le _, fun h => absurd h (Nat.lt_irrefl _)⟩, trivial⟩
        · repeat first | (with_reducible refine Kept.set ?_ (by simp)) | with_reducible exact Kept.refl _ _

end Go.Proofs.Ytcflciblcdabpaa

namespace Go.Proofs.Ytcflciblcdabpaa
open Go.RowKit Go.Joins

/-- Where a list is: the key of the program's maps. -/
def whr (a : Option Addr) (n : Nat) : Value := .agg #[.pointer (if n = 0 then none else a), .int .i64 n]

set_option maxHeartbeats 1000000 in
set_option maxRecDepth 100000 in
theorem i_where (a : Option Addr) (n c : Nat) (W : World) (ha : 0 < n → ∃ b o, a = some ⟨b, o, none⟩) (hn : n ≤ 1048576) :
    Calls Try.prog 71 #[.slice a n c] W fun e W' => e = .returned (whr a n) ∧ Below W.heap.size W W' := by
  obtain ⟨V0, hV0⟩ : ∃ V, W.alloc (.cells #[.pointer none, .int .i64 0] 114) = V := ⟨_, rfl⟩
  have b0 : Below W.heap.size W V0 := by rw [← hV0]; exact below_alloc1 _ _
  have q0 : Bx V0 W.heap.size [.pointer none, .int .i64 0] := by rw [← hV0]; exact Bx.new _ _ _
  have m0 := q0.cel 0 _ rfl
  have m1 := q0.cel 1 _ rfl
  have l0 := q0.live 0
  have l1 := q0.live 1
  have HB := hide b0
  have HV0 := hide hV0
  clear hV0 b0 q0
  by_cases h0 : n = 0
  · subst h0
    go_enter Try.func71, Try.ntmps71
    go_upto_region 1 with fail
    rw [HV0.out]
    clear HV0
    go_wp2_with fail
    refine bodyPost_ret (v := whr a 0) (by simp [whr, results, Try.results71, go_sem, m0, m1]) rfl ⟨rfl, ?_⟩
    refine (fun (V : World) (kV : Kept (fun c => c ≠ W.heap.size) V0 V) => (?_ : Below W.heap.size W V)) _ ?_
    · exact Below.kept HB.out kV (fun c hc => by omega) (Nat.le_refl _)
    · repeat first | (with_reducible refine Kept.set ?_ (by simp)) | with_reducible exact Kept.refl _ _
  · obtain ⟨b, o, rfl⟩ := ha (by omega)
    have hn0 : 0 < n := by omega
    go_enter Try.func71, Try.ntmps71
    go_upto_region 1 with fail
    rw [HV0.out]
    clear HV0
    go_wp2_with fail
    refine bodyPost_ret (v := whr (some ⟨b, o, none⟩) n) (by simp [whr, h0, results, Try.results71, go_sem, m0, m1]) rfl ⟨rfl, ?_⟩
    refine (fun (V : World) (kV : Kept (fun c => c ≠ W.heap.size) V0 V) => (?_ : Below W.heap.size W V)) _ ?_
    · exact Below.kept HB.out kV (fun c hc => by omega) (Nat.le_refl _)
    · repeat first | (with_reducible refine Kept.set ?_ (by simp)) | with_reducible exact Kept.refl _ _

end Go.Proofs.Ytcflciblcdabpaa

namespace Go.Proofs.Ytcflciblcdabpaa
open Go.RowKit Go.Joins

set_option maxHeartbeats 1000000 in
set_option maxRecDepth 100000 in
/-- Is it the constructor? -/
theorem i_is (x0 x1 c : ByteArray) (x2 x3 : Int) (p4 : Option Addr) (m4 e4 pb : Nat) (W : World) (hc : W.cell? ⟨pb, 0, none⟩ = some (.string c)) :
    Calls Try.prog 25 #[.agg #[.string x0, .string x1, .int .i64 x2, .int .i64 x3, .slice p4 m4 e4], .pointer (some ⟨pb, 0, none⟩)] W fun e W' => e = .returned (.bool (decide (x0 = c))) ∧ Below W.heap.size W W' := by
  have b0 := below_alloc1 W (.cells #[.string x0, .string x1, .int .i64 x2, .int .i64 x3, .slice p4 m4 e4] 32)
  have hpl : pb < W.heap.size := block_lt_of_cell hc
  have hne : ¬ W.heap.size = pb := by omega
  have hc2 := (b0.cell (p := ⟨pb, 0, none⟩) hpl).trans hc
  have HB := hide b0
  clear b0
  by_cases h1 : x0 = c
  · subst h1
    simp only [decide_true]
    go_enter Try.func25, Try.ntmps25
    go_wp2_with fail
    go_ret
    exact ⟨rfl, HB.out⟩
  · have h1' := list_ne h1
    have e1 : decide (x0 = c) = false := by simp [h1]
    rw [e1]
    clear e1 h1
    go_enter Try.func25, Try.ntmps25
    go_wp2_with fail
    go_ret
    exact ⟨rfl, HB.out⟩

/-- Where it stands. -/
def FoundC (c : ByteArray) (n nb : Nat) (a : Option Addr) (F : Fo) (W : World) (j : Int) : Prop :=
  (j = -1 ∧ findC c F = zeroC) ∨ ∃ (i : Nat) (x q : Fo), j = i ∧ i < n ∧ Rd E (E 3) n nb a i (x.app q) W ∧ Fit E x (E 3) ∧ x.wt ≤ F.wt ∧ findC c F = x

set_option maxHeartbeats 1000000 in
set_option maxRecDepth 100000 in
theorem i_index (F : Fo) (c : ByteArray) (n nb pb : Nat) (a : Option Addr) (cap : Nat) (W : World) (hf : Fit E F (rep (E 3) n)) (hn : nb ≤ W.heap.size) (hs : F.Sub W (fun c => c < nb) a n cap) (hc : W.cell? ⟨pb, 0, none⟩ = some (.string c)) :
    Calls Try.prog 24 #[.slice a n cap, .func (.func 25) #[] #[.pointer (some ⟨pb, 0, none⟩)]] W fun e W' => ∃ j, e = .returned (.int .i64 j) ∧ FoundC c n nb a F W j ∧ Below W.heap.size W W' := by
  have hmx : n ≤ 9223372036854775807 := by have h2 := hs.1; have h3 := hs.2.1; simp only [maxLen] at h3; omega
  have HR := hide (Rd.start hf hs)
  have HC := hide hc
  have hpl : Hid (pb < W.heap.size) := block_lt_of_cell hc
  clear hf hs hc
  go_enter Try.func24, Try.ntmps24
  go_wp2_with fail
  go_loopw [8] (fun s8 wr => ∃ (i : Nat) (r : Fo), s8 = .int .i64 i ∧ i ≤ n ∧ Hid (findC c r = findC c F) ∧ Hid (r.wt ≤ F.wt) ∧ Hid (Rd E (E 3) n nb a i r W) ∧ Hid (Below W.heap.size W wr)) (fun s8 _ => n - (intOf s8).toNat)
  case atStart => exact ⟨0, F, rfl, Nat.zero_le _, rfl, Nat.le_refl _, HR, Below.refl _ _⟩
  case round =>
    obtain ⟨i, r, rfl, hin, hfd, hrw, hR, hB⟩ := hrel
    by_cases hi : i < n
    · have HRW := hide hR.out
      obtain ⟨x, rr, b, o, rfl, hx, rfl, hb, hc, hxs, hR1⟩ := hR.out.next hi (by decide)
      have HR1 := hide hR1
      have HX := hide hx
      have hii : (i : Int) < n := by omega
      have hw := hrw.out
      rw [Fo.app_wt] at hw
      have HW := hide hw
      have hfe := hfd.out
      have hbz := hB.out.size
      replace hc := hc.below hB.out (by omega)
      have HX' := hide HX.out
      clear hR hR1 hrw hfd hw hxs
      replace hx : Fit E x [.t, .t, .i, .i, .s 2] := hx
      obtain ⟨x0, F0, rfl, -, hx⟩ := fit_t hx
      obtain ⟨x1, F1, rfl, -, hx⟩ := fit_t hx
      obtain ⟨x2, F2, rfl, -, hx⟩ := fit_i hx
      obtain ⟨x3, F3, rfl, -, hx⟩ := fit_i hx
      obtain ⟨p4, m4, e4, k4, F4, rfl, -, hx⟩ := fit_s hx
      obtain rfl := fit_nil hx
      simp only [Fo.app, findC] at hfe
      have y0 : wr.cell? ⟨b, o + i * 5, none⟩ = some (.string x0) := hc 0 _ rfl
      have y1 : wr.cell? ⟨b, o + i * 5 + 1, none⟩ = some (.string x1) := hc 1 _ rfl
      have y2 : wr.cell? ⟨b, o + i * 5 + 2, none⟩ = some (.int .i64 x2) := hc 2 _ rfl
      have y3 : wr.cell? ⟨b, o + i * 5 + 3, none⟩ = some (.int .i64 x3) := hc 3 _ rfl
      have y4 : wr.cell? ⟨b, o + i * 5 + 4, none⟩ = some (.slice p4 m4 e4) := hc 4 _ rfl
      have HI := hide (i_is x0 x1 c x2 x3 p4 m4 e4 pb wr ((hB.out.cell (p := ⟨pb, 0, none⟩) hpl.out).trans HC.out))
      have HBZ := hide hbz
      clear hc hx hbz
      by_cases h1 : x0 = c
      · rw [if_pos h1] at hfe
        rw [decide_eq_true h1] at HI
        have HFE := hide hfe
        clear hfe h1
        go_wp2_with fail
        refine HI.out.mono ?_
        rintro e w1 ⟨rfl, b1⟩
        have HB1 := hide (hB.out.trans (b1.mono HBZ.out))
        clear b1
        go_wp2_with fail
        go_ret
        exact ⟨_, rfl, .inr ⟨i, _, rr, rfl, hi, HRW.out, HX'.out, (by have := HW.out; omega), HFE.out.symm⟩, HB1.out⟩
      · rw [if_neg h1] at hfe
        rw [decide_eq_false h1] at HI
        have HFE := hide hfe
        clear hfe h1
        go_wp2_with fail
        refine HI.out.mono ?_
        rintro e w1 ⟨rfl, b1⟩
        have HB1 := hide (hB.out.trans (b1.mono HBZ.out))
        clear b1
        go_wp2_with fail
        go_roundw
        case rel => exact ⟨i + 1, rr, by go_num, by omega, HFE, (by show _ ≤ _; have := HW.out; omega), HR1, HB1⟩
        case measure => simp [intOf]; omega
    · obtain ⟨rfl, rfl⟩ := hR.out.done hi
      have hfe := hfd.out
      simp only [findC] at hfe
      have HFE := hide hfe
      clear hR hfd hfe hrw
      go_wp2_with fail
      go_ret
      exact ⟨_, rfl, .inl ⟨rfl, HFE.out.symm⟩, hB.out⟩

end Go.Proofs.Ytcflciblcdabpaa
