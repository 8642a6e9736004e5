import Derived.Test.YtkjbkmhmghmodaaKa
import Derived.Test.YtkjbkmhmghmodaaUt
import Derived.Test.YtkjbkmhmghmodaaKToPred
namespace Go.Proofs.Ytkjbkmhmghmodaa
open Go.RowKit Go.Joins

def tabs : List Fld := [.s 3, .s 4, .s 7, .s 1, .s 6]
theorem plain5 : ∀ k, Fld.s k ∉ E 5 := by intro k; simp [E]
def zeroI : Fo := .v (.string ⟨#[]⟩) (.v (.string ⟨#[]⟩) (.v (.int .i64 0) (.s none 0 0 .nil .nil)))

/-- The first instance of a class for a data. -/
def findI (c d : ByteArray) : Fo → Fo
  | .v (.string x) (.v (.string y) (.v z (.s a n cap ks r))) => if x = c ∧ y = d then .v (.string x) (.v (.string y) (.v z (.s a n cap ks .nil))) else findI c d r
  | _ => zeroI

theorem findI_sim (c d : ByteArray) : ∀ (m : Nat) {F G : Fo} {n : Nat}, F.size ≤ m → Fit E F (rep (E 6) n) → G.sim F → (findI c d G).sim (findI c d F) := by
  intro m
  induction m with
  | zero =>
    intro F G n hm hf hs
    have : F = .nil := Fo.len_zero (by have := F.len_le; omega)
    subst this
    rw [Fo.sim_nil hs]
    exact Fo.sim.refl _
  | succ m ih =>
    intro F G n hm hf hs
    cases n with
    | zero =>
      have e := fit_nil hf
      subst e
      rw [Fo.sim_nil hs]
      exact Fo.sim.refl _
    | succ n =>
      replace hf : Fit E F ([.t, .t, .i, .s 5] ++ rep (E 6) n) := hf
      obtain ⟨x0, F0, rfl, -, hf⟩ := fit_t hf
      obtain ⟨x1, F1, rfl, -, hf⟩ := fit_t hf
      obtain ⟨x2, F2, rfl, -, hf⟩ := fit_i hf
      obtain ⟨a3, n3, c3, k3, F3, rfl, -, hf⟩ := fit_s hf
      obtain ⟨u0, rfl, s_1⟩ := Fo.sim_v hs
      obtain ⟨u1, rfl, s_2⟩ := Fo.sim_v s_1
      obtain ⟨u2, rfl, s_3⟩ := Fo.sim_v s_2
      obtain ⟨d3, e3, t3, u3, rfl, r3, s_4⟩ := Fo.sim_s s_3
      simp only [findI]
      split
      · exact ⟨rfl, rfl, rfl, rfl, r3, trivial⟩
      · exact ih (by simp only [Fo.size] at hm; omega) hf s_4

def findT (c d : ByteArray) : Fo → Fo
  | .s _ _ _ _ (.s _ _ _ _ (.s _ _ _ _ (.s _ _ _ _ (.s _ _ _ ks _)))) => findI c d ks
  | _ => zeroI

theorem findT_sim {c d : ByteArray} {F G : Fo} (hf : Fit E F tabs) (hs : G.sim F) : (findT c d G).sim (findT c d F) := by
  obtain ⟨a0, n0, c0, k0, F0, rfl, hf0, hf⟩ := fit_s hf
  obtain ⟨a1, n1, c1, k1, F1, rfl, hf1, hf⟩ := fit_s hf
  obtain ⟨a2, n2, c2, k2, F2, rfl, hf2, hf⟩ := fit_s hf
  obtain ⟨a3, n3, c3, k3, F3, rfl, hf3, hf⟩ := fit_s hf
  obtain ⟨a4, n4, c4, k4, F4, rfl, hf4, hf⟩ := fit_s hf
  obtain ⟨d0, e0, t0, u0, rfl, r0, s_1⟩ := Fo.sim_s hs
  obtain ⟨d1, e1, t1, u1, rfl, r1, s_2⟩ := Fo.sim_s s_1
  obtain ⟨d2, e2, t2, u2, rfl, r2, s_3⟩ := Fo.sim_s s_2
  obtain ⟨d3, e3, t3, u3, rfl, r3, s_4⟩ := Fo.sim_s s_3
  obtain ⟨d4, e4, t4, u4, rfl, r4, s_5⟩ := Fo.sim_s s_4
  exact findI_sim c d _ (Nat.le_refl _) hf4 r4

set_option maxHeartbeats 2000000 in
set_option maxRecDepth 100000 in
/-- The model's FindInst. -/
theorem m_FindInst (F : Fo) (c d : ByteArray) (nb : Nat) (W : World) (hf : Fit E F tabs) (hn : nb ≤ W.heap.size) (hwt : F.wt ≤ 1048576) (hs : F.Subs W (fun c => c < nb)) :
    Calls Try.prog 19 #[.agg F.vals.toArray, .string c, .string d] W fun e W' => ∃ R : Fo, e = .returned (.agg R.vals.toArray) ∧ R.sim (findT c d F) ∧ Below W.heap.size W W' ∧ R.Subs W' (fun c => c < W'.heap.size) := by
  obtain ⟨a0, n0, c0, k0, F0, rfl, hf0, hf⟩ := fit_s hf
  obtain ⟨a1, n1, c1, k1, F1, rfl, hf1, hf⟩ := fit_s hf
  obtain ⟨a2, n2, c2, k2, F2, rfl, hf2, hf⟩ := fit_s hf
  obtain ⟨a3, n3, c3, k3, F3, rfl, hf3, hf⟩ := fit_s hf
  obtain ⟨a4, n4, c4, k4, F4, rfl, hf4, hf⟩ := fit_s hf
  obtain rfl := fit_nil hf
  obtain ⟨-, -, -, -, hs4, -⟩ := hs
  replace hs4 : Fo.Sub W (fun c => c < nb) a4 n4 c4 k4 := hs4
  simp only [Fo.wt] at hwt
  simp only [Fo.vals, findT]
  have hmx : n4 ≤ 9223372036854775807 := by omega
  have hwt4 : k4.wt ≤ 1048576 := by omega
  obtain ⟨V0, hV0⟩ : ∃ V0, (W.alloc (.cells #[.slice a0 n0 c0, .slice a1 n1 c1, .slice a2 n2 c2, .slice a3 n3 c3, .slice a4 n4 c4] 28)).alloc (.cells #[.string ⟨#[]⟩, .string ⟨#[]⟩, .int .i64 0, .slice none 0 0] 51) = V0 := ⟨_, rfl⟩
  have b0 : Below W.heap.size W V0 := by rw [← hV0]; exact below_alloc2 _ _ _
  have z0 : V0.heap.size = W.heap.size + 1 + 1 := by rw [← hV0]; simp
  have q1 : Bx V0 W.heap.size [.slice a0 n0 c0, .slice a1 n1 c1, .slice a2 n2 c2, .slice a3 n3 c3, .slice a4 n4 c4] := by
    rw [← hV0]
    exact (Bx.new _ _ _).kept (Kept.alloc (fun _ => True) _ _) trivial
  have q2 : Bx V0 (W.heap.size + 1) [.string ⟨#[]⟩, .string ⟨#[]⟩, .int .i64 0, .slice none 0 0] := by
    rw [← hV0]
    have := Bx.new (W.alloc (.cells #[.slice a0 n0 c0, .slice a1 n1 c1, .slice a2 n2 c2, .slice a3 n3 c3, .slice a4 n4 c4] 28)) [.string ⟨#[]⟩, .string ⟨#[]⟩, .int .i64 0, .slice none 0 0] 51
    rwa [World.size_alloc] at this
  have HR := hide ((Rd.start hf4 hs4).below b0 hn)
  have HB0 := hide b0
  have HZ0 := hide z0
  have HQ2 := hide q2
  have HWT := hide hwt4
  have t4 : V0.cell? ⟨W.heap.size, 4, none⟩ = some (.slice a4 n4 c4) := q1.cel 4 _ rfl
  have HV0 := hide hV0
  clear hV0 b0 z0 q1 q2 hs4 hf4 hwt hwt4 hf0 hf1 hf2 hf3 hf
  go_enter Try.func19, Try.ntmps19
  go_wp2_with fail
  rw [HV0.out]
  clear HV0
  go_loopw [7] (fun s7 wr => ∃ (i : Nat) (r : Fo), s7 = .int .i64 i ∧ wr = V0 ∧ i ≤ n4 ∧ Hid (findI c d r = findI c d k4) ∧ Hid (r.wt ≤ 1048576) ∧ Hid (Rd E (E 6) n4 nb a4 i r V0)) (fun s7 _ => n4 - (intOf s7).toNat)
  case atStart => exact ⟨0, k4, rfl, rfl, Nat.zero_le _, rfl, HWT, HR⟩
  case round =>
    obtain ⟨i, r, rfl, rfl, hin, hfd, hrw, hR⟩ := hrel
    by_cases hi : i < n4
    · obtain ⟨x, rr, b, o, rfl, hx, rfl, hb, hc, hxs, hR1⟩ := hR.out.next hi (by decide)
      have HR1 := hide hR1
      have hii : (i : Int) < n4 := by omega
      have hw := hrw.out
      rw [Fo.app_wt] at hw
      have hfe := hfd.out
      clear hR hR1 hrw hfd
      replace hx : Fit E x [.t, .t, .i, .s 5] := hx
      obtain ⟨x0, F0, rfl, hx0, hx⟩ := fit_t hx
      obtain ⟨x1, F1, rfl, hx1, hx⟩ := fit_t hx
      obtain ⟨x2, F2, rfl, hx2, hx⟩ := fit_i hx
      obtain ⟨p3, m3, e3, k3, F3, rfl, hf3, hx⟩ := fit_s hx
      obtain rfl := fit_nil hx
      simp only [Fo.wt, textSize] at hw
      simp only [Fo.app, findI] at hfe
      have y0 : wr.cell? ⟨b, o + i * 4, none⟩ = some (.string x0) := hc 0 _ rfl
      have y1 : wr.cell? ⟨b, o + i * 4 + 1, none⟩ = some (.string x1) := hc 1 _ rfl
      have y2 : wr.cell? ⟨b, o + i * 4 + 2, none⟩ = some (.int .i64 x2) := hc 2 _ rfl
      have y3 : wr.cell? ⟨b, o + i * 4 + 3, none⟩ = some (.slice p3 m3 e3) := hc 3 _ rfl
      have HXS : Hid (Fo.Sub wr (fun c => c < nb) p3 m3 e3 k3) := hxs.1
      have HW := hide hw
      clear hc hxs hw hx
      by_cases h1 : x0 = c
      · by_cases h2 : x1 = d
        · subst h1 h2
          rw [if_pos ⟨rfl, rfl⟩] at hfe
          have HFE := hide hfe
          clear hfe
          obtain ⟨V1, hV1⟩ : ∃ V1, wr.alloc (.cells #[.string x0, .string x1, .int .i64 x2, .slice p3 m3 e3] 51) = V1 := ⟨_, rfl⟩
          obtain ⟨V2, hV2⟩ : ∃ V2, V1.alloc (.cells #[] 109) = V2 := ⟨_, rfl⟩
          have k02 : Kept (fun _ => True) wr V2 := by rw [← hV2, ← hV1]; exact (Kept.alloc _ _ _).trans (Kept.alloc _ _ _)
          have z1 : V1.heap.size = wr.heap.size + 1 := by rw [← hV1]; simp
          have z2 : V2.heap.size = wr.heap.size + 1 + 1 := by rw [← hV2, World.size_alloc, z1]
          have q8 : Bx V2 wr.heap.size [.string x0, .string x1, .int .i64 x2, .slice p3 m3 e3] := by
            rw [← hV2]
            have := Bx.new wr [.string x0, .string x1, .int .i64 x2, .slice p3 m3 e3] 51
            rw [hV1] at this
            exact this.kept (Kept.alloc (fun _ => True) _ _) trivial
          have HOWN : Hid (V2.ownsRow (wr.heap.size + 1) 109 2 (.slice (some ⟨wr.heap.size + 1, 0, none⟩) 0 0) 0 []) := by
            refine ⟨rfl, .inr ⟨wr.heap.size + 1, 0, #[], rfl, Nat.le_refl _, ?_, Nat.le_refl _, Nat.zero_le _, rfl, rfl⟩⟩
            rw [← hV2]
            have := heap_new V1 (.cells #[] 109)
            rwa [z1] at this
          have hkl : k3.len = m3 * 2 := by rw [hf3.len, rep_len]; rfl
          have hnb := HB0.out.size
          have HCK : Hid (0 < m3 → ∃ b o, p3 = some ⟨b, o, none⟩ ∧ Cel V2 k3.vals b o) := fun h0 => by
            obtain ⟨b', o', e, hb', hc', -⟩ := HXS.out.2.2 (by omega)
            exact ⟨b', o', e, hc'.kept k02 (by omega) trivial⟩
          have HKL : Hid (k3.vals.length = m3 * 2) := by unfold Hid; rw [Fo.vals_length, hkl]
          have HK1 : Hid (∀ u ∈ k3.vals, u.oneCell' = true) := hf3.one
          have hm3 : m3 ≤ 1048576 := by have := HW.out; omega
          have HM3 : Hid (0 + m3 ≤ maxLen ∧ (0 + m3) * 24 ≤ 140737488355328) := ⟨by unfold maxLen; omega, by omega⟩
          have HZ2 : Hid (wr.heap.size + 1 ≤ V2.heap.size) := by unfold Hid; omega
          have hz0 := HZ0.out
          have q6 := HQ2.out.kept k02 trivial
          have HX3 : Hid (∀ w3, V2.grownBy w3 (some (wr.heap.size + 1)) → Kept (fun c => c ≠ wr.heap.size + 1) wr w3 ∧ Bx w3 wr.heap.size [.string x0, .string x1, .int .i64 x2, .slice p3 m3 e3] ∧ Bx w3 (W.heap.size + 1) [.string ⟨#[]⟩, .string ⟨#[]⟩, .int .i64 0, .slice none 0 0] ∧ V2.heap.size ≤ w3.heap.size) := fun w3 hg => by
            have k3' : Kept (fun c => c ≠ wr.heap.size + 1) V2 w3 := Kept.grown hg (fun k e h => h (by simpa using e.symm))
            exact ⟨(k02.mono (fun _ _ _ => trivial)).trans k3', q8.kept k3' (by omega), q6.kept k3' (by omega), k3'.size⟩
          have HV : Hid ((wr.alloc (.cells #[.string x0, .string x1, .int .i64 x2, .slice p3 m3 e3] 51)).alloc (.cells #[] 109) = V2) := by unfold Hid; rw [hV1, hV2]
          have HF3 := hide hf3
          have HZZ := hide (And.intro z2 hz0)
          have hne : ¬ wr.heap.size = W.heap.size + 1 := by omega
          have hne' : ¬ W.heap.size + 1 = wr.heap.size := by omega
          clear hV1 hV2 k02 z1 z2 q8 hkl hm3 hz0 q6 hnb hf3
          go_wp2_with (at_builtin; rw [HV.out]; refine ur_step rfl _ _ 49 109 rfl Try.info109 Try.underlying49 rfl (by decide) (wr.heap.size + 1) V2 (.slice (some ⟨wr.heap.size + 1, 0, none⟩) 0 0) 0 [] k3.vals p3 m3 e3 rfl rfl HZ2.out HOWN.out HCK.out HKL.out HK1.out HM3.out.1 HM3.out.2 ?_; rintro v' w3 hO3 hG3; rw [Nat.zero_add, List.nil_append] at hO3; obtain ⟨kk3, b8, b6, zz3⟩ := HX3.out w3 hG3; obtain ⟨ap, cp, rfl, ho⟩ := own_plain (E := E) (fs := [.t, .i]) hO3 HF3.out (by simp); have m0 := b6.cel 0 _ rfl; have m1 := b6.cel 1 _ rfl; have m2 := b6.cel 2 _ rfl; have m3' := b6.cel 3 _ rfl; have l0 := b6.live 0; have l1 := b6.live 1; have l2 := b6.live 2; have l3 := b6.live 3; have r0 := b8.cel 0 _ rfl; have r1 := b8.cel 1 _ rfl; have r2 := b8.cel 2 _ rfl; have r3 := b8.cel 3 _ rfl; have u3 := b8.live 3; have HOW := hide ho; have HKK := hide (And.intro kk3 zz3); clear hO3 hG3 b8 b6 kk3 zz3 ho)
          obtain ⟨kk3, zz3⟩ := HKK.out
          obtain ⟨hz2, hz0⟩ := HZZ.out
          refine bodyPost_ret (v := .agg #[.string x0, .string x1, .int .i64 x2, .slice ap m3 cp]) (by simp [results, Try.results19, go_sem, m0, m1, m2, m3']) rfl ⟨.v (.string x0) (.v (.string x1) (.v (.int .i64 x2) (.s ap m3 cp k3 .nil))), rfl, ?_, ?_⟩
          · rw [← HFE.out]
            exact ⟨rfl, rfl, rfl, rfl, Fo.sim.refl _, trivial⟩
          · refine (fun (V : World) (kV : Kept (fun c => c ≠ W.heap.size + 1 ∧ c ≠ wr.heap.size) w3 V) => (?_ : Below W.heap.size W V ∧ Fo.Subs V (fun c => c < V.heap.size) (.v (.string x0) (.v (.string x1) (.v (.int .i64 x2) (.s ap m3 cp k3 .nil)))))) _ ?_
            · have zV := kV.size
              have hbb := HB0.out.size
              refine ⟨Below.kept (Below.kept HB0.out kk3 (fun c hc => by omega) (Nat.le_refl _)) kV (fun c hc => by omega) (Nat.le_refl _), ?_⟩
              have ho := HOW.out.subs
              obtain ⟨h1, h2, h3⟩ := ho.1
              refine ⟨⟨h1, h2, fun hl => ?_⟩, trivial⟩
              obtain ⟨bq, oq, e1, e2, e3', e4⟩ := h3 hl
              have hbq : wr.heap.size + 1 ≤ bq ∧ bq < w3.heap.size := e2
              have hbne : bq ≠ wr.heap.size := by omega
              exact ⟨bq, oq, e1, by omega, e3'.kept kV hbq.2 ⟨by omega, hbne⟩, (HF3.out.plain (rep_plain plain5 _)).1 _ _⟩
            · repeat first | (with_reducible refine Kept.set ?_ (by simp)) | with_reducible exact Kept.refl _ _
        · have h2' := list_ne h2
          rw [if_neg (fun h => h2 h.2)] at hfe
          have HFE := hide hfe
          subst h1
          clear hfe h2
          go_wp2_with fail
          go_roundw
          case rel => exact ⟨i + 1, rr, by go_num, trivial, by omega, HFE, (by show _ ≤ _; have := HW.out; omega), HR1⟩
          case measure => simp [intOf]; omega
      · have h1' := list_ne h1
        rw [if_neg (fun h => h1 h.1)] at hfe
        have HFE := hide hfe
        clear hfe h1
        go_wp2_with fail
        go_roundw
        case rel => exact ⟨i + 1, rr, by go_num, trivial, by omega, HFE, (by show _ ≤ _; have := HW.out; omega), HR1⟩
        case measure => simp [intOf]; omega
    · obtain ⟨rfl, rfl⟩ := hR.out.done hi
      have hfe := hfd.out
      simp only [findI] at hfe
      have HFE := hide hfe
      have m0 := HQ2.out.cel 0 _ rfl
      have m1 := HQ2.out.cel 1 _ rfl
      have m2 := HQ2.out.cel 2 _ rfl
      have m3 := HQ2.out.cel 3 _ rfl
      have l0 := HQ2.out.live 0
      have l1 := HQ2.out.live 1
      have l2 := HQ2.out.live 2
      have l3 := HQ2.out.live 3
      clear hR hfd hfe hrw
      go_wp2_with fail
      refine bodyPost_ret (v := .agg #[.string ⟨#[]⟩, .string ⟨#[]⟩, .int .i64 0, .slice none 0 0]) (by simp [results, Try.results19, go_sem, m0, m1, m2, m3]) rfl ⟨zeroI, rfl, ?_, ?_⟩
      · rw [← HFE.out]
        exact Fo.sim.refl _
      · refine (fun (V : World) (kV : Kept (fun c => c ≠ W.heap.size + 1) wr V) => (?_ : Below W.heap.size W V ∧ Fo.Subs V (fun c => c < V.heap.size) zeroI)) _ ?_
        · exact ⟨Below.kept HB0.out kV (fun c hc => by omega) (Nat.le_refl _), ⟨Nat.le_refl _, Nat.zero_le _, fun hl => by simp [Fo.len] at hl⟩, trivial⟩
        · repeat first | (with_reducible refine Kept.set ?_ (by simp)) | with_reducible exact Kept.refl _ _

end Go.Proofs.Ytkjbkmhmghmodaa
