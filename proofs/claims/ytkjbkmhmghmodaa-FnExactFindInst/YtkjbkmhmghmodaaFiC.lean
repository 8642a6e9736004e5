import Derived.Test.YtkjbkmhmghmodaaFiB
import Derived.Deep.RegionHeld3
import Derived.Deep.RegionLaw
namespace Go.Proofs.Ytkjbkmhmghmodaa
open Go.RowKit Go.Joins

/-- The answer's row so far. -/
structure FLoop (T nb m3 : Nat) (x0 x1 : ByteArray) (x2 : Int) (p3 : Option Addr) (k3 : Fo) (w0 : World) (i : Nat) (pa : Option Addr) (pc : Nat) (Fp r : Fo) (wr : World) : Prop where
  eq : Fp.app r = k3
  fit : Fit E Fp (rep (E 5) i)
  rd : Rd E (E 5) m3 nb p3 i r wr
  bx : Bx wr T [.string x0, .string x1, .int .i64 x2, .slice pa i pc]
  own : wr.ownsRow (T + 1) 109 2 (.slice pa i pc) i Fp.vals
  kept : Kept (fun _ => True) w0 wr

theorem ownBlock_ge {W : World} {B : Nat} {e : TypeId} {size n : Nat} {v : Value} {xs : List Value} (h : W.ownsRow B e size v n xs) : ∀ c, v.ownBlock = some c → B ≤ c ∧ c < W.heap.size := by
  intro c hc
  rcases h.2 with ⟨rfl, -⟩ | ⟨b, cap, cur, rfl, hb, hg, -⟩
  · simp [Value.ownBlock] at hc
  · have e : b = c := Option.some.inj hc
    subst e
    exact ⟨hb, (Array.getElem?_eq_some_iff.1 hg).1⟩

theorem FLoop.step {T nb m3 i : Nat} {x0 x1 : ByteArray} {x2 : Int} {p3 pa : Option Addr} {pc : Nat} {k3 Fp x rr : Fo} {w0 wr V w7 : World} {g cap : Nat} (h : FLoop T nb m3 x0 x1 x2 p3 k3 w0 i pa pc Fp (x.app rr) wr) (hx : Fit E x (E 5)) (hR : Rd E (E 5) m3 nb p3 (i + 1) rr wr) (hn0 : nb ≤ w0.heap.size) (hT : w0.heap.size ≤ T) (kV : Kept (fun _ => True) wr V) (hG : V.grownBy w7 (Value.slice pa i pc).ownBlock) (hO : w7.ownsRow (T + 1) 109 2 (.slice (some ⟨g, 0, none⟩) (i + 1) cap) (i + 1) (Fp.vals ++ x.vals)) :
    FLoop T nb m3 x0 x1 x2 p3 k3 w0 (i + 1) (some ⟨g, 0, none⟩) cap (Fp.app x) rr (w7.setCell ⟨T, 3, none⟩ (.slice (some ⟨g, 0, none⟩) (i + 1) cap)) := by
  have ho := ownBlock_ge h.own
  have hg := ownBlock_ge hO
  have k7 : Kept (fun c => c ≤ T) V w7 := Kept.grown hG (fun k e hk => by have := (ho k e).1; omega)
  have k07 : Kept (fun c => c ≤ T) wr w7 := (kV.mono (fun _ _ _ => trivial)).trans k7
  have hT' := h.bx.lt
  have hz := h.kept.size
  refine ⟨by rw [Fo.app_assoc]; exact h.eq, ?_, ?_, (h.bx.kept k07 (Nat.le_refl _)).put 3 _ (by simp), ?_, ?_⟩
  · rw [← rep_snoc]; exact h.fit.app hx
  · exact hR.kept ((k07.mono (T := fun c => c < T) (fun c _ hc => Nat.le_of_lt hc)).trans (Kept.setCell _ _ _ _ (by simp))) (by omega) (fun c hc => by omega)
  · rw [Fo.app_vals]
    exact ownsRow_kept hO (Kept.setCell (fun c => c ≠ T) _ _ _ (by simp)) (fun c hc => by have := (hg c hc).1; omega)
  · have k9 : Kept (fun c => c < T) w7 (w7.setCell ⟨T, 3, none⟩ (.slice (some ⟨g, 0, none⟩) (i + 1) cap)) := Kept.setCell _ _ _ _ (by simp)
    have k8 := (k07.mono (T := fun c => c < T) (fun c _ hc => Nat.le_of_lt hc)).trans k9
    have := h.kept.mono (T := fun c => c < T) (fun _ _ _ => trivial) |>.trans k8
    exact this.mono (fun c hc _ => by omega)

theorem Kept.alloc' {S : Nat → Prop} {A B : World} {o : Obj} (h : Kept S A B) : Kept S A (B.alloc o) := h.trans (Kept.alloc S B o)
theorem Kept.drew' {S : Nat → Prop} {A B : World} (h : Kept S A B) : Kept S A B.drew := h.trans (Kept.drew S B)
theorem Kept.set' {A B : World} {p : Addr} {v : Value} (hp : A.heap.size ≤ p.block) (h : Kept (fun _ => True) A B) : Kept (fun _ => True) A (B.setCell p v) :=
  ((h.mono (T := fun c => c < A.heap.size) (fun _ _ _ => trivial)).set (by omega)).mono (fun c hc _ => hc)
theorem Bx.four {W : World} {T : Nat} {z0 z1 z2 z3 : Value} (q : Bx W T [z0, z1, z2, z3]) (v0 v1 v2 v3 : Value) : Bx ((((W.setCell ⟨T, 0, none⟩ v0).setCell ⟨T, 1, none⟩ v1).setCell ⟨T, 2, none⟩ v2).setCell ⟨T, 3, none⟩ v3) T [v0, v1, v2, v3] :=
  (((q.put 0 v0 (by simp)).put 1 v1 (by simp)).put 2 v2 (by simp)).put 3 v3 (by simp)

theorem Rd.head {E : Nat → List Fld} {fs : List Fld} {n n0 i : Nat} {a : Option Addr} {x q : Fo} {wr : World} (h : Rd E fs n n0 a i (x.app q) wr) (hl : 0 < x.len) :
    ∃ (b o : Nat), a = some ⟨b, o, none⟩ ∧ b < n0 ∧ Cel wr x.vals b (o + i * fs.length) ∧ x.Subs wr (fun c => c < n0) := by
  obtain ⟨b, o, e, s, c, u⟩ := h.at_ (by rw [Fo.app_len]; omega)
  rw [Fo.app_vals] at c
  exact ⟨b, o, e, s, c.left, u.left⟩

set_option maxHeartbeats 4000000 in
set_option maxRecDepth 100000 in
/-- The program's FindInst. -/
theorem i_FindInst (F : Fo) (c d : ByteArray) (nb : Nat) (W : World) (hf : Fit E F tabs) (hn : nb ≤ W.heap.size) (hwt : F.wt ≤ 1048576) (hs : F.Subs W (fun c => c < nb)) :
    Calls Try.prog 20 #[.agg F.vals.toArray, .string c, .string d] W fun e W' => ∃ R : Fo, e = .returned (.agg R.vals.toArray) ∧ R.sim (findT c d F) ∧ Below W.heap.size W W' ∧ Own W.heap.size W' R := by
  obtain ⟨a0, n0, c0, k0, F0, rfl, hf0, hf⟩ := fit_s hf
  obtain ⟨a1, n1, c1, k1, F1, rfl, hf1, hf⟩ := fit_s hf
  obtain ⟨a2, n2, c2, k2, F2, rfl, hf2, hf⟩ := fit_s hf
  obtain ⟨a3, n3, c3, k3, F3, rfl, hf3, hf⟩ := fit_s hf
  obtain ⟨a4, n4, c4, k4, F4, rfl, hf4, hf⟩ := fit_s hf
  obtain rfl := fit_nil hf
  obtain ⟨-, -, -, -, hs4, -⟩ := hs
  replace hs4 : Fo.Sub W (fun c => c < nb) a4 n4 c4 k4 := hs4
  simp only [Fo.wt] at hwt
  simp only [Fo.vals, findT]
  have hmx : n4 ≤ 9223372036854775807 := by omega
  have hwt4 : k4.wt ≤ 1048576 := by omega
  obtain ⟨V0, hV0⟩ : ∃ V0, (((W.alloc (.cells #[.slice a0 n0 c0, .slice a1 n1 c1, .slice a2 n2 c2, .slice a3 n3 c3, .slice a4 n4 c4] 28)).alloc (.cells #[.string c] 9)).alloc (.cells #[.string d] 9)).alloc (.cells #[.string ⟨#[]⟩, .string ⟨#[]⟩, .int .i64 0, .slice none 0 0] 51) = V0 := ⟨_, rfl⟩
  have b0 : Below W.heap.size W V0 := by rw [← hV0]; exact (below_alloc2 _ _ _).trans ((below_alloc2 _ _ _).mono (by simp; omega))
  have z0 : V0.heap.size = W.heap.size + 1 + 1 + 1 + 1 := by rw [← hV0]; simp
  have q1 : Bx V0 W.heap.size [.slice a0 n0 c0, .slice a1 n1 c1, .slice a2 n2 c2, .slice a3 n3 c3, .slice a4 n4 c4] := by
    rw [← hV0]
    exact (((Bx.new _ _ _).kept (Kept.alloc (fun _ => True) _ _) trivial).kept (Kept.alloc (fun _ => True) _ _) trivial).kept (Kept.alloc (fun _ => True) _ _) trivial
  have q2 : Bx V0 (W.heap.size + 1) [.string c] := by
    rw [← hV0]
    have := (((Bx.new (W.alloc (.cells #[.slice a0 n0 c0, .slice a1 n1 c1, .slice a2 n2 c2, .slice a3 n3 c3, .slice a4 n4 c4] 28)) [.string c] 9).kept (Kept.alloc (fun _ => True) _ (.cells #[.string d] 9)) trivial).kept (Kept.alloc (fun _ => True) _ (.cells #[.string ⟨#[]⟩, .string ⟨#[]⟩, .int .i64 0, .slice none 0 0] 51)) trivial)
    rwa [World.size_alloc] at this
  have q3 : Bx V0 (W.heap.size + 1 + 1) [.string d] := by
    rw [← hV0]
    have := ((Bx.new ((W.alloc (.cells #[.slice a0 n0 c0, .slice a1 n1 c1, .slice a2 n2 c2, .slice a3 n3 c3, .slice a4 n4 c4] 28)).alloc (.cells #[.string c] 9)) [.string d] 9).kept (Kept.alloc (fun _ => True) _ (.cells #[.string ⟨#[]⟩, .string ⟨#[]⟩, .int .i64 0, .slice none 0 0] 51)) trivial)
    rwa [World.size_alloc, World.size_alloc] at this
  have q4 : Bx V0 (W.heap.size + 1 + 1 + 1) [.string ⟨#[]⟩, .string ⟨#[]⟩, .int .i64 0, .slice none 0 0] := by
    rw [← hV0]
    have := Bx.new (((W.alloc (.cells #[.slice a0 n0 c0, .slice a1 n1 c1, .slice a2 n2 c2, .slice a3 n3 c3, .slice a4 n4 c4] 28)).alloc (.cells #[.string c] 9)).alloc (.cells #[.string d] 9)) [.string ⟨#[]⟩, .string ⟨#[]⟩, .int .i64 0, .slice none 0 0] 51
    rwa [World.size_alloc, World.size_alloc, World.size_alloc] at this
  have HI := hide (i_index k4 c d n4 nb (W.heap.size + 1) (W.heap.size + 1 + 1) a4 c4 V0 hf4 (by omega) (hs4.below b0 (fun _ h => by omega)) (q2.cel 0 _ rfl) (q3.cel 0 _ rfl))
  have HB0 := hide b0
  have HZ0 := hide z0
  have HQ1 := hide q1
  have HQ4 := hide q4
  have HWT := hide hwt4
  have t4 : V0.cell? ⟨W.heap.size, 4, none⟩ = some (.slice a4 n4 c4) := q1.cel 4 _ rfl
  have HV0 := hide hV0
  clear hV0 b0 z0 q1 q2 q3 q4 hs4 hf4 hwt hwt4 hf0 hf1 hf2 hf3 hf
  go_enter Try.func20, Try.ntmps20
  go_wp2_with fail
  rw [HV0.out]
  clear HV0
  refine HI.out.mono ?_
  rintro e w1 ⟨j, rfl, hj, b1⟩
  have HB1 := hide b1
  clear HI t4
  have q4 := HQ4.out.below b1
  have q1 := HQ1.out.below b1
  have HQ4' := hide q4
  have m0 := q4.cel 0 _ rfl
  have m1 := q4.cel 1 _ rfl
  have m2 := q4.cel 2 _ rfl
  have m3 := q4.cel 3 _ rfl
  have l0 := q4.live 0
  have l1 := q4.live 1
  have l2 := q4.live 2
  have l3 := q4.live 3
  have t4 : w1.cell? ⟨W.heap.size, 4, none⟩ = some (.slice a4 n4 c4) := q1.cel 4 _ rfl
  clear q4 q1 b1
  rcases hj with ⟨rfl, hz⟩ | ⟨i, x, qq, rfl, hi, hR, hx, hxw, hfd⟩
  · have HZ := hide hz
    clear hz
    go_wp2_with fail
    refine bodyPost_ret (v := .agg #[.string ⟨#[]⟩, .string ⟨#[]⟩, .int .i64 0, .slice none 0 0]) (by simp [results, Try.results20, go_sem, m0, m1, m2, m3]) rfl ⟨zeroI, rfl, ?_, ?_⟩
    · rw [HZ.out]
      exact Fo.sim.refl _
    · refine (fun (V : World) (kV : Kept (fun c => c ≠ W.heap.size + 1 + 1 + 1) w1 V) => (?_ : Below W.heap.size W V ∧ Own W.heap.size V zeroI)) _ ?_
      · have hb := HB0.out.size
        refine ⟨Below.kept (HB0.out.trans (HB1.out.mono hb)) kV (fun c hc => by omega) (Nat.le_refl _), ⟨⟨⟨Nat.le_refl _, Nat.zero_le _, fun hl => by simp [Fo.len] at hl⟩, trivial⟩, by simp [zeroI, Fo.inn, blk], fun c hc => by simp [zeroI, Fo.inn, blk] at hc⟩⟩
      · repeat first | (with_reducible refine Kept.set ?_ (by simp)) | with_reducible exact Kept.refl _ _
  · have hbz := HB0.out.size
    have hbz1 := HB1.out.size
    obtain ⟨b, o, rfl, hb, hc, hxs⟩ := (hR.below HB1.out (by omega)).head (by rw [hx.len]; decide)
    have hii : (i : Int) < n4 := by omega
    have hi0 : ¬ ((i : Int) < 0) := by omega
    have HX' := hide hx
    replace hx : Fit E x [.t, .t, .i, .s 5] := hx
    obtain ⟨x0, F0, rfl, -, hx⟩ := fit_t hx
    obtain ⟨x1, F1, rfl, -, hx⟩ := fit_t hx
    obtain ⟨x2, F2, rfl, -, hx⟩ := fit_i hx
    obtain ⟨p3, m3', e3, k3, F3, rfl, hf3, hx⟩ := fit_s hx
    obtain rfl := fit_nil hx
    have y0 : w1.cell? ⟨b, o + i * 4, none⟩ = some (.string x0) := hc 0 _ rfl
    have y1 : w1.cell? ⟨b, o + i * 4 + 1, none⟩ = some (.string x1) := hc 1 _ rfl
    have y2 : w1.cell? ⟨b, o + i * 4 + 2, none⟩ = some (.int .i64 x2) := hc 2 _ rfl
    have y3 : w1.cell? ⟨b, o + i * 4 + 3, none⟩ = some (.slice p3 m3' e3) := hc 3 _ rfl
    have HXS : Hid (Fo.Sub w1 (fun c => c < nb) p3 m3' e3 k3) := hxs.1
    have HF3 := hide hf3
    have HFD := hide hfd
    have HL0 : Hid (x0.size ≤ 1048576) := by unfold Hid; simp only [Fo.wt, textSize] at hxw; have := HWT.out; omega
    have HL1 : Hid (x1.size ≤ 1048576) := by unfold Hid; simp only [Fo.wt, textSize] at hxw; have := HWT.out; omega
    have HW3 : Hid (k3.wt ≤ 1048576) := by unfold Hid; simp only [Fo.wt] at hxw; have := HWT.out; omega
    have hm3 : m3' ≤ 1048576 := by simp only [Fo.wt] at hxw; have := HWT.out; omega
    obtain ⟨V1, hV1⟩ : ∃ V1, w1.alloc (.cells #[.string x0, .string x1, .int .i64 x2, .slice p3 m3' e3] 51) = V1 := ⟨_, rfl⟩
    have k1 : Kept (fun _ => True) w1 V1 := by rw [← hV1]; exact Kept.alloc _ _ _
    have q8 : Bx V1 w1.heap.size [.string x0, .string x1, .int .i64 x2, .slice p3 m3' e3] := by rw [← hV1]; exact Bx.new _ _ _
    have z1 : V1.heap.size = w1.heap.size + 1 := by rw [← hV1]; simp
    have HK1 := hide k1
    have HQ8 := hide q8
    have HZ1 := hide z1
    have HV1 := hide hV1
    have HNB : Hid (nb ≤ w1.heap.size) := by unfold Hid; omega
    clear hc hxs hx hf3 hfd hV1 k1 q8 z1 hR hxw hbz hbz1
    have HC0 : Hid (∀ V, Calls Try.prog 64 #[.string x0] V fun e w' => e = .returned (.string x0) ∧ Below V.heap.size V w') := fun V => iClone x0 V HL0.out
    have HC1 : Hid (∀ V, Calls Try.prog 64 #[.string x1] V fun e w' => e = .returned (.string x1) ∧ Below V.heap.size V w') := fun V => iClone x1 V HL1.out
    have HSQ : Hid (∀ V, Kept (fun _ => True) V1 V → V.cell? ⟨w1.heap.size, 0, none⟩ = some (.string x0) ∧ V.cell? ⟨w1.heap.size, 1, none⟩ = some (.string x1) ∧ V.cell? ⟨w1.heap.size, 2, none⟩ = some (.int .i64 x2)) := fun V kV => by
      have q := HQ8.out.kept kV trivial
      exact ⟨q.cel 0 _ rfl, q.cel 1 _ rfl, q.cel 2 _ rfl⟩
    go_upto_region 5 with fail
    rw [HV1.out]
    clear HV1
    have S0 := HSQ.out V1 (Kept.refl _ _)
    obtain ⟨s80, s81, s82⟩ := id S0
    go_cut [9] (fun s9 wx => ∃ T, s9 = .pointer (some ⟨T, 0, none⟩) ∧ Bx wx T [.string x0, .string x1, .int .i64 x2, .slice none 0 0] ∧ Kept (fun _ => True) V1 wx ∧ V1.heap.size ≤ T)
    case first =>
      go_region_held3 (fun V => V.cell? ⟨w1.heap.size, 0, none⟩ = some (.string x0) ∧ V.cell? ⟨w1.heap.size, 1, none⟩ = some (.string x1) ∧ V.cell? ⟨w1.heap.size, 2, none⟩ = some (.int .i64 x2))
        ((refine HSQ.out _ ?_; repeat first | with_reducible exact Kept.refl _ _ | with_reducible exact HK5.out | with_reducible exact HK6.out | with_reducible refine Kept.alloc' ?_ | with_reducible refine Kept.drew' ?_ | with_reducible refine Kept.set' (by first | with_reducible exact Nat.le_refl _ | with_reducible exact HK5.out.size | with_reducible exact HK6.out.size) ?_))
        (first
          | (go_at_call_of 64 (Value.string x0); refine (HC0.out _).mono ?_; rintro e w5 ⟨rfl, b5⟩; have HK5 : Hid (Kept (fun _ => True) V1 w5) := Kept.trans (by repeat first | with_reducible exact Kept.refl _ _ | with_reducible refine Kept.alloc' ?_ | with_reducible refine Kept.drew' ?_) (kt b5); obtain ⟨s80, s81, s82⟩ := HSQ.out w5 HK5.out; try ((first | have q9 := ((Bx.new V1 [.string ⟨#[]⟩, .string ⟨#[]⟩, .int .i64 0, .slice none 0 0] 51).kept (Kept.drew (fun _ => True) _) trivial).kept (kt (S := fun _ => True) b5) trivial | have q9 := (Bx.new V1.drew [.string ⟨#[]⟩, .string ⟨#[]⟩, .int .i64 0, .slice none 0 0] 51).kept (kt (S := fun _ => True) b5) trivial); have g0 := q9.cel 0 _ rfl; have g1 := q9.cel 1 _ rfl; have g2 := q9.cel 2 _ rfl; have g3 := q9.cel 3 _ rfl; have f0 := q9.live 0; have f1 := q9.live 1; have f2 := q9.live 2; have f3 := q9.live 3; have HQ9 := hide q9; clear q9))
          | (go_at_call_of 64 (Value.string x1); refine (HC1.out _).mono ?_; rintro e w6 ⟨rfl, b6⟩; have HK6 : Hid (Kept (fun _ => True) V1 w6) := Kept.trans (by repeat first | with_reducible exact HK5.out | with_reducible refine Kept.alloc' ?_ | with_reducible refine Kept.drew' ?_) (kt b6); obtain ⟨s80, s81, s82⟩ := HSQ.out w6 HK6.out; try ((first | have q9 := HQ9.out.kept (kt (S := fun _ => True) b6) trivial | have q9 := (Bx.new w5 [.string ⟨#[]⟩, .string ⟨#[]⟩, .int .i64 0, .slice none 0 0] 51).kept (kt (S := fun _ => True) b6) trivial | have q9 := ((Bx.new w5 [.string ⟨#[]⟩, .string ⟨#[]⟩, .int .i64 0, .slice none 0 0] 51).kept (Kept.drew (fun _ => True) _) trivial).kept (kt (S := fun _ => True) b6) trivial); have g0 := q9.cel 0 _ rfl; have g1 := q9.cel 1 _ rfl; have g2 := q9.cel 2 _ rfl; have g3 := q9.cel 3 _ rfl; have f0 := q9.live 0; have f1 := q9.live 1; have f2 := q9.live 2; have f3 := q9.live 3; have HQ9 := hide q9; clear q9)))
      all_goals
        go_wp2_with fail
        go_meet
        case rel =>
          first
          | with_reducible exact ⟨_, rfl, Bx.new _ _ _, HK6.out.alloc', HK6.out.size⟩
          | exact ⟨_, rfl, HQ9.out.four _ _ _ _, (by repeat first | with_reducible exact HK6.out | with_reducible refine Kept.set' (by first | with_reducible exact Nat.le_refl _ | with_reducible exact HK5.out.size | with_reducible exact HK6.out.size) ?_), (by first | with_reducible exact Nat.le_refl _ | with_reducible exact HK5.out.size)⟩
    case rest =>
      obtain ⟨T, rfl, q9, kx, hT⟩ := hcut
      rename World => wx
      have q8 := HQ8.out.kept kx trivial
      have t83 : wx.cell? ⟨w1.heap.size, 3, none⟩ = some (.slice p3 m3' e3) := q8.cel 3 _ rfl
      have hz1 := HZ1.out
      have hnb := HNB.out
      have hxz := kx.size
      have k1x : Kept (fun _ => True) w1 wx := HK1.out.trans kx
      have HFL : Hid (FLoop T nb m3' x0 x1 x2 p3 k3 V1 0 none 0 .nil k3 wx) := ⟨rfl, trivial, Rd.start HF3.out (HXS.out.kept k1x (fun c hc => ⟨trivial, by omega⟩)), q9, ⟨rfl, .inl ⟨rfl, rfl⟩⟩, kx⟩
      have HT := hide hT
      have HNV : Hid (nb ≤ V1.heap.size) := by unfold Hid; omega
      have hm63 : m3' ≤ 9223372036854775807 := by omega
      clear q8 q9 kx hT hz1 hnb hxz k1x
      go_wp2_with fail
      go_loopw [36] (fun s36 wr => ∃ (i : Nat) (pa : Option Addr) (pc : Nat) (Fp r : Fo), s36 = .int .i64 i ∧ i ≤ m3' ∧ Hid (FLoop T nb m3' x0 x1 x2 p3 k3 V1 i pa pc Fp r wr)) (fun s36 _ => m3' - (intOf s36).toNat)
      case atStart => exact ⟨0, none, 0, .nil, k3, rfl, Nat.zero_le _, HFL⟩
      case round =>
        obtain ⟨i, pa, pc, Fp, r, rfl, hin, hL⟩ := hrel
        have HBT := hide hL.out.bx
        have HKP := hide hL.out.kept
        have hTl : Hid (T < wr.heap.size) := hL.out.bx.lt
        by_cases hi : i < m3'
        · obtain ⟨x, rr, b', o', rfl, hxx, rfl, hb', hcc, hxs, hR1⟩ := hL.out.rd.next hi (by decide)
          have hii : (i : Int) < m3' := by omega
          have HX := hide hxx
          have HR1 := hide hR1
          have hw3 := HW3.out
          rw [← hL.out.eq, Fo.app_wt, Fo.app_wt] at hw3
          have HL := hide hL.out
          replace hxx : Fit E x [.t, .i] := hxx
          obtain ⟨y0, F0, rfl, -, hxy⟩ := fit_t hxx
          obtain ⟨y1, F1, rfl, -, hxz⟩ := fit_i hxy
          obtain rfl := fit_nil hxz
          simp only [Fo.wt, textSize] at hw3
          have HCL : Hid (∀ V, Calls Try.prog 64 #[.string y0] V fun e w' => ∃ v, e = .returned v ∧ (v = .string y0 ∧ Below V.heap.size V w')) := fun V => (iClone y0 V (by omega)).mono (fun e w' h => ⟨_, h.1, rfl, h.2⟩)
          have e0 : wr.cell? ⟨b', o' + i * 2, none⟩ = some (.string y0) := hcc 0 _ rfl
          have e1 : wr.cell? ⟨b', o' + i * 2 + 1, none⟩ = some (.int .i64 y1) := hcc 1 _ rfl
          obtain ⟨wa, hwa⟩ : ∃ wa, wr.alloc (.cells #[.string y0, .int .i64 y1] 109) = wa := ⟨_, rfl⟩
          have HKA : Hid (Kept (fun _ => True) wr wa) := by unfold Hid; rw [← hwa]; exact Kept.alloc _ _ _
          have HQA : Hid (Bx wa wr.heap.size [.string y0, .int .i64 y1]) := by unfold Hid; rw [← hwa]; exact Bx.new _ _ _
          have HA : Hid (wr.alloc (.cells #[.string y0, .int .i64 y1] 109) = wa) := hwa
          have HOW : Hid (∀ V o, Kept (fun _ => True) wr V → (V.alloc o).ownsRow (T + 1) 109 2 (.slice pa i pc) i Fp.vals) := fun V o kV => ownsRow_kept HL.out.own (kV.alloc' (o := o)) (fun _ _ => trivial)
          have HZB : Hid (∀ V o, Kept (fun _ => True) wr V → T + 1 ≤ (V.alloc o).heap.size) := fun V o kV => by have := kV.size; have := hTl.out; rw [World.size_alloc]; omega
          have H63 : Hid (i + 1 ≤ maxLen ∧ (i + 1) * 24 ≤ 140737488355328) := ⟨by unfold maxLen; omega, by omega⟩
          have HSG : Hid (∀ V w7, Kept (fun _ => True) wr V → V.grownBy w7 (Value.slice pa i pc).ownBlock → Bx w7 T [.string x0, .string x1, .int .i64 x2, .slice pa i pc]) := fun V w7 kV hG => by
            have ho := ownBlock_ge HL.out.own
            have k7 : Kept (fun c => c ≤ T) V w7 := Kept.grown hG (fun k e hk => by have := (ho k e).1; omega)
            exact (HL.out.bx.kept kV trivial).kept k7 (Nat.le_refl _)
          have FIN : Hid (∀ V w7 g cap, Kept (fun _ => True) wr V → V.grownBy w7 (Value.slice pa i pc).ownBlock → w7.ownsRow (T + 1) 109 2 (.slice (some ⟨g, 0, none⟩) (i + 1) cap) (i + 1) (Fp.vals ++ [.string y0, .int .i64 y1]) → FLoop T nb m3' x0 x1 x2 (some ⟨b', o', none⟩) k3 V1 (i + 1) (some ⟨g, 0, none⟩) cap (Fp.app (.v (.string y0) (.v (.int .i64 y1) .nil))) rr (w7.setCell ⟨T, 3, none⟩ (.slice (some ⟨g, 0, none⟩) (i + 1) cap))) :=
            fun V w7 g cap kV hG hO => FLoop.step HL.out HX.out HR1.out HNV.out HT.out kV hG hO
          clear hwa hxx hxy hxz hxs hcc hL hR1 hw3
          go_upto_region 9 with fail
          rw [HA.out]
          clear HA
          have pt3 : wa.cell? ⟨T, 3, none⟩ = some (.slice pa i pc) := (HBT.out.kept HKA.out trivial).cel 3 _ rfl
          have ca0 : wa.cell? ⟨wr.heap.size, 0, none⟩ = some (.string y0) := HQA.out.cel 0 _ rfl
          have ca1 : wa.cell? ⟨wr.heap.size, 1, none⟩ = some (.int .i64 y1) := HQA.out.cel 1 _ rfl
          go_region_law (first
            | (refine step_call (by rfl) 64 #[.string y0] (by simp [go_sem]) _ (HCL.out _) ?_; rintro v5 w5 ⟨rfl, b5⟩; have HK5a : Hid (Kept (fun _ => True) wa w5) := (Kept.drew _ _).trans (kt b5); have HK5 : Hid (Kept (fun _ => True) wr w5) := HKA.out.trans HK5a.out; have pt3 : w5.cell? ⟨T, 3, none⟩ = some (.slice pa i pc) := (HBT.out.kept HK5.out trivial).cel 3 _ rfl; have pt4 : (w5.alloc (.cells #[.string y0, .int .i64 y1] 109)).cell? ⟨T, 3, none⟩ = some (.slice pa i pc) := (HBT.out.kept HK5.out.alloc' trivial).cel 3 _ rfl; have ca1 : w5.cell? ⟨wr.heap.size, 1, none⟩ = some (.int .i64 y1) := (HQA.out.kept HK5a.out trivial).cel 1 _ rfl; clear b5)
            | (refine ur_draw (by rfl) _ _ 49 109 (by rfl) Try.info109 Try.underlying49 rfl (by decide) (T + 1) _ (.slice pa i pc) i Fp.vals [.string y0, .int .i64 y1] _ _ (by rfl) (HOW.out _ _ HK5.out) (by rfl) (heap_new _ _) (HZB.out _ _ HK5.out) (by rfl) (by simp [Value.oneCell']) H63.out.1 H63.out.2 ?_; intro g7 cp w7 hO7 hG7 hat7; have q7 := HSG.out _ _ HK5.out.alloc' hG7; have r3 := q7.cel 3 _ rfl; have s3 := q7.live 3; have HF := hide (FIN.out _ _ _ _ HK5.out.alloc' hG7 hO7); clear hO7 hG7 hat7 q7))
          all_goals
            go_wp2_with fail
            go_roundw
            case rel => exact ⟨i + 1, _, _, _, rr, by go_num, by omega, HF⟩
            case measure => simp [intOf]; omega
        · obtain ⟨rfl, rfl⟩ := hL.out.rd.done hi
          have hbt := HBT.out
          have q4 := (HQ4'.out.kept HK1.out trivial).kept HKP.out trivial
          have m0 := q4.cel 0 _ rfl
          have m1 := q4.cel 1 _ rfl
          have m2 := q4.cel 2 _ rfl
          have m3 := q4.cel 3 _ rfl
          have l0 := q4.live 0
          have l1 := q4.live 1
          have l2 := q4.live 2
          have l3 := q4.live 3
          have r0 := hbt.cel 0 _ rfl
          have r1 := hbt.cel 1 _ rfl
          have r2 := hbt.cel 2 _ rfl
          have r3 := hbt.cel 3 _ rfl
          clear hbt q4
          go_wp2_with fail
          refine bodyPost_ret (v := .agg #[.string x0, .string x1, .int .i64 x2, .slice pa i pc]) (by simp [results, Try.results20, go_sem, m0, m1, m2, m3]) rfl ⟨.v (.string x0) (.v (.string x1) (.v (.int .i64 x2) (.s pa i pc Fp .nil))), rfl, ?_, ?_⟩
          · rw [HFD.out]
            have e := hL.out.eq
            rw [Fo.app_nil] at e
            subst e
            exact ⟨rfl, rfl, rfl, rfl, Fo.sim.refl _, trivial⟩
          · refine (fun (V : World) (kV : Kept (fun c => c ≠ W.heap.size + 1 + 1 + 1) wr V) => (?_ : Below W.heap.size W V ∧ Own W.heap.size V (.v (.string x0) (.v (.string x1) (.v (.int .i64 x2) (.s pa i pc Fp .nil)))))) _ ?_
            · have hb := HB0.out.size
              have hb1 := HB1.out.size
              have hz0 := HZ0.out
              have hz1 := HZ1.out
              have hT := HT.out
              have k1r : Kept (fun _ => True) w1 wr := HK1.out.trans HKP.out
              refine ⟨Below.kept (Below.kept (HB0.out.trans (HB1.out.mono hb)) k1r (fun _ _ => trivial) (Nat.le_refl _)) kV (fun c hc => by omega) (Nat.le_refl _), ?_⟩
              obtain ⟨ap, cp, e, ho⟩ := own_plain (E := E) (fs := [.t, .i]) hL.out.own hL.out.fit (by simp)
              cases e
              exact Own.v _ (Own.v _ (Own.v _ ((ho.kept kV (fun c hc _ => by omega)).mono (by omega))))
            · repeat first | (with_reducible refine Kept.set ?_ (by simp)) | with_reducible exact Kept.refl _ _

end Go.Proofs.Ytkjbkmhmghmodaa
