import Derived.Test.YtkjbkmhmghmodaaBh
namespace Go.Proofs.Ytkjbkmhmghmodaa
open Go.RowKit Go.Joins

/-- A row that is made at once. -/
theorem Hp.build {P : Nat → Prop} {L : List Item} {A : World} {X : Fo} (h : Hp P (.fo X :: L) A) (e : TypeId) (sz n : Nat) (hP : ∀ c, P c → c < A.heap.size) (hl : X.vals.length = n * sz) (hn : n ≤ maxLen) :
    Hp P (.row e sz (.slice (some ⟨A.heap.size, 0, none⟩) n n) n X :: L) (A.alloc (.cells X.vals.toArray e)) := by
  have k : Kept (fun _ => True) A (A.alloc (.cells X.vals.toArray e)) := Kept.alloc _ _ _
  have h1 := h.keep k
  have hx := h1.ok _ List.mem_cons_self
  have hfr : A.heap.size ∉ X.inn ++ bls L := fun hc => by
    have := h.lt (c := A.heap.size) (by rw [bls_cons]; exact hc)
    omega
  refine ⟨fun i hi => ?_, ?_, fun c hc => ?_⟩
  · rcases List.mem_cons.1 hi with rfl | hi
    · refine ⟨⟨hl, .inr ⟨A.heap.size, n, X.vals.toArray, rfl, Nat.zero_le _, heap_new _ _, Nat.le_refl _, hn, by simpa using hl, by simp [← hl]⟩⟩, hx.1, hx.2⟩
    · exact h1.ok i (List.mem_cons_of_mem _ hi)
  · rw [bls_cons]
    simp only [Item.bl, List.append_assoc]
    have e1 : ob (.slice (some ⟨A.heap.size, 0, none⟩) n n) = [A.heap.size] := rfl
    rw [e1, List.singleton_append, List.nodup_cons]
    exact ⟨hfr, h.nd⟩
  · rw [bls_cons] at hc
    simp only [Item.bl, List.append_assoc] at hc
    have e1 : ob (.slice (some ⟨A.heap.size, 0, none⟩) n n) = [A.heap.size] := rfl
    rw [e1, List.singleton_append] at hc
    rcases List.mem_cons.1 hc with rfl | hc
    · intro hp
      have := hP _ hp
      omega
    · exact h.fr c hc

/-- What was guarded comes back. -/
theorem Hp.join {P Q : Nat → Prop} {L : List Item} {A : World} {i : Item} (h : Hp Q L A) (hi : i.ok A) (hn : i.bl.Nodup) (hq : ∀ c ∈ i.bl, Q c) (hp : ∀ c ∈ i.bl, ¬ P c) (hPQ : ∀ c, P c → Q c) : Hp P (i :: L) A := by
  refine ⟨fun j hj => by rcases List.mem_cons.1 hj with rfl | hj; exact hi; exact h.ok j hj, ?_, fun c hc => ?_⟩
  · rw [bls_cons, List.nodup_append]
    exact ⟨hn, h.nd, fun a ha b hb e => h.fr b hb (by rw [← e]; exact hq a ha)⟩
  · rw [bls_cons] at hc
    rcases List.mem_append.1 hc with hc | hc
    · exact hp c hc
    · exact fun hx => h.fr c hc (hPQ c hx)

set_option maxRecDepth 100000 in
theorem m_gen (k : Int) (V : World) : Calls Try.prog 31 #[.int .i64 k] V fun e V' => e = .returned (.agg #[.int .i64 2, .int .i64 k, .string ⟨#[]⟩, .slice none 0 0]) ∧ Below V.heap.size V V' := by
  have HB := hide (below_alloc1 V (.cells #[.int .i64 2, .int .i64 k, .string ⟨#[]⟩, .slice none 0 0] 66))
  have HQ := hide (Bx.new V [.int .i64 2, .int .i64 k, .string ⟨#[]⟩, .slice none 0 0] 66)
  go_enter Try.func31, Try.ntmps31
  go_wp2_with fail
  refine bodyPost_ret (v := .agg #[.int .i64 2, .int .i64 k, .string ⟨#[]⟩, .slice none 0 0]) (by simp [results, Try.results31, go_sem]) rfl ⟨rfl, HB.out⟩

set_option maxHeartbeats 1000000 in
set_option maxRecDepth 100000 in
theorem m_l8con (nm : ByteArray) (b : Nat) (V : World) (hb : Bx V b (gen1 0).vals) : Calls Try.prog 80 #[.string nm, .slice (some ⟨b, 0, none⟩) 1 1] V fun e V' => ∃ a c, e = .returned (.agg #[.int .i64 3, .int .i64 0, .string nm, .slice a 1 c]) ∧ Below V.heap.size V V' ∧ Own V.heap.size V' (.s a 1 c (gen1 0) .nil) := by
  obtain ⟨V1, hV1⟩ : ∃ V1, V.alloc (.cells #[.int .i64 0, .int .i64 0, .string ⟨#[]⟩, .slice none 0 0] 66) = V1 := ⟨_, rfl⟩
  obtain ⟨V2, hV2⟩ : ∃ V2, V1.alloc (.cells #[] 66) = V2 := ⟨_, rfl⟩
  have k1 : Kept (fun _ => True) V V1 := by rw [← hV1]; exact Kept.alloc _ _ _
  have k2 : Kept (fun _ => True) V1 V2 := by rw [← hV2]; exact Kept.alloc _ _ _
  have z1 : V1.heap.size = V.heap.size + 1 := by rw [← hV1]; simp
  have z2 : V2.heap.size = V.heap.size + 1 + 1 := by rw [← hV2, World.size_alloc, z1]
  have q1 : Bx V2 V.heap.size [.int .i64 0, .int .i64 0, .string ⟨#[]⟩, .slice none 0 0] := by
    have := Bx.new V [.int .i64 0, .int .i64 0, .string ⟨#[]⟩, .slice none 0 0] 66
    rw [hV1] at this
    exact this.kept k2 trivial
  have HB := hide (hb.kept (k1.trans k2) trivial)
  have HOWN : Hid (V2.ownsRow (V.heap.size + 1) 66 4 (.slice (some ⟨V.heap.size + 1, 0, none⟩) 0 0) 0 []) := by
    refine ⟨rfl, .inr ⟨V.heap.size + 1, 0, #[], rfl, Nat.le_refl _, ?_, Nat.le_refl _, Nat.zero_le _, rfl, rfl⟩⟩
    rw [← hV2]
    have := heap_new V1 (.cells #[] 66)
    rwa [z1] at this
  have HCK : Hid (0 < 1 → ∃ b' o, (some ⟨b, 0, none⟩ : Option Addr) = some ⟨b', o, none⟩ ∧ Cel V2 (gen1 0).vals b' o) := fun _ => ⟨b, 0, rfl, HB.out.cel_cells⟩
  have HV : Hid ((V.alloc (.cells #[.int .i64 0, .int .i64 0, .string ⟨#[]⟩, .slice none 0 0] 66)).alloc (.cells #[] 66) = V2) := by unfold Hid; rw [hV1, hV2]
  have H63 : Hid (0 + 1 ≤ maxLen ∧ (0 + 1) * 56 ≤ 140737488355328) := ⟨by unfold maxLen; omega, by omega⟩
  have HX : Hid (∀ v' w3, w3.ownsRow (V.heap.size + 1) 66 4 v' (0 + 1) ([] ++ (gen1 0).vals) → V2.grownBy w3 (some (V.heap.size + 1)) → Bx w3 V.heap.size [.int .i64 0, .int .i64 0, .string ⟨#[]⟩, .slice none 0 0] ∧ ∃ a c, v' = .slice a 1 c ∧ ∀ W, Kept (fun c => c ≠ V.heap.size) w3 W → Below V.heap.size V W ∧ Own V.heap.size W (.s a 1 c (gen1 0) .nil)) := fun v' w3 hO hG => by
    have k3 : Kept (fun c => c ≠ V.heap.size + 1) V2 w3 := Kept.grown hG (fun k e h => h (by simpa using e.symm))
    rw [List.nil_append] at hO
    obtain ⟨a, c, rfl, ho⟩ := own_slice hO (fun _ _ => gen1_subs 0 _ _) (fun g _ => ⟨by show (g :: []).Nodup; simp, fun c hc => absurd hc (by show c ∉ []; simp)⟩)
    refine ⟨q1.kept k3 (by omega), a, c, rfl, fun W kW => ⟨?_, ?_⟩⟩
    · exact Below.kept (Below.kept ((k1.trans k2).below (fun _ _ => trivial) (Nat.le_refl _)) k3 (fun c hc => by omega) (Nat.le_refl _)) kW (fun c hc => by omega) (Nat.le_refl _)
    · exact (ho.kept kW (fun c hc _ => by omega)).mono (by omega)
  have HZ : Hid (V.heap.size + 1 ≤ V2.heap.size) := by unfold Hid; omega
  clear hV1 hV2 k1 k2 z1 z2 q1 hb
  go_enter Try.func80, Try.ntmps80
  go_wp2_with (at_builtin; rw [HV.out]; refine ur_step rfl _ _ 41 66 rfl Try.info66 Try.underlying41 rfl (by decide) (V.heap.size + 1) V2 (.slice (some ⟨V.heap.size + 1, 0, none⟩) 0 0) 0 [] (gen1 0).vals (some ⟨b, 0, none⟩) 1 1 rfl rfl HZ.out HOWN.out HCK.out rfl (by simp [gen1, Fo.vals, Value.oneCell']) H63.out.1 H63.out.2 ?_; rintro v' w3 hO3 hG3; obtain ⟨q3, a3, c3, rfl, x3⟩ := HX.out v' w3 hO3 hG3; have m0 := q3.cel 0 _ rfl; have m1 := q3.cel 1 _ rfl; have m2 := q3.cel 2 _ rfl; have m3 := q3.cel 3 _ rfl; have l0 := q3.live 0; have l1 := q3.live 1; have l2 := q3.live 2; have l3 := q3.live 3; have HX3 := hide x3; clear hO3 hG3 q3 x3)
  refine bodyPost_ret (v := .agg #[.int .i64 3, .int .i64 0, .string nm, .slice a3 1 c3]) (by simp [results, Try.results80, go_sem, m0, m1, m2, m3]) rfl ⟨a3, c3, rfl, HX3.out _ ?_⟩
  repeat first | (with_reducible refine Kept.set ?_ (by simp)) | with_reducible exact Kept.refl _ _

set_option maxHeartbeats 1000000 in
set_option maxRecDepth 100000 in
theorem m_list (V : World) : Calls Try.prog 32 #[.agg #[.int .i64 2, .int .i64 0, .string ⟨#[]⟩, .slice none 0 0]] V fun e V' => ∃ a c, e = .returned (.agg #[.int .i64 3, .int .i64 0, .string sList, .slice a 1 c]) ∧ Below V.heap.size V V' ∧ Own V.heap.size V' (.s a 1 c (gen1 0) .nil) := by
  obtain ⟨V1, hV1⟩ : ∃ V1, V.alloc (.cells #[.int .i64 2, .int .i64 0, .string ⟨#[]⟩, .slice none 0 0] 66) = V1 := ⟨_, rfl⟩
  obtain ⟨V2, hV2⟩ : ∃ V2, V1.alloc (.cells #[.int .i64 0, .int .i64 0, .string ⟨#[]⟩, .slice none 0 0] 66) = V2 := ⟨_, rfl⟩
  obtain ⟨V3, hV3⟩ : ∃ V3, V2.alloc (.cells #[.int .i64 2, .int .i64 0, .string ⟨#[]⟩, .slice none 0 0] 66) = V3 := ⟨_, rfl⟩
  have k1 : Kept (fun _ => True) V V1 := by rw [← hV1]; exact Kept.alloc _ _ _
  have k2 : Kept (fun _ => True) V1 V2 := by rw [← hV2]; exact Kept.alloc _ _ _
  have k3 : Kept (fun _ => True) V2 V3 := by rw [← hV3]; exact Kept.alloc _ _ _
  have z1 : V1.heap.size = V.heap.size + 1 := by rw [← hV1]; simp
  have z2 : V2.heap.size = V.heap.size + 1 + 1 := by rw [← hV2, World.size_alloc, z1]
  have z3 : V3.heap.size = V.heap.size + 1 + 1 + 1 := by rw [← hV3, World.size_alloc, z2]
  have q2 : Bx V3 (V.heap.size + 1) [.int .i64 0, .int .i64 0, .string ⟨#[]⟩, .slice none 0 0] := by
    have := Bx.new V1 [.int .i64 0, .int .i64 0, .string ⟨#[]⟩, .slice none 0 0] 66
    rw [hV2, z1] at this
    exact this.kept k3 trivial
  have q3 : Bx V3 (V.heap.size + 1 + 1) (gen1 0).vals := by
    have := Bx.new V2 (gen1 0).vals 66
    rw [z2] at this
    have e : V2.alloc (.cells (gen1 0).vals.toArray 66) = V3 := hV3
    rw [e] at this
    exact this
  have HC := hide (m_l8con sList (V.heap.size + 1 + 1) V3 q3)
  have HV : Hid (((V.alloc (.cells #[.int .i64 2, .int .i64 0, .string ⟨#[]⟩, .slice none 0 0] 66)).alloc (.cells #[.int .i64 0, .int .i64 0, .string ⟨#[]⟩, .slice none 0 0] 66)).alloc (.cells #[.int .i64 2, .int .i64 0, .string ⟨#[]⟩, .slice none 0 0] 66) = V3) := by unfold Hid; rw [hV1, hV2, hV3]
  have HQ2 := hide q2
  have HB := hide (Kept.below ((k1.trans k2).trans k3) (n := V.heap.size) (fun _ _ => trivial) (Nat.le_refl _))
  have HZ := hide z3
  clear hV1 hV2 hV3 k1 k2 k3 z1 z2 z3 q2 q3
  go_enter Try.func32, Try.ntmps32
  go_wp2_with fail
  rw [HV.out]
  clear HV
  refine HC.out.mono ?_
  rintro e w1 ⟨a, c, rfl, b1, o1⟩
  have q := HQ2.out.below b1
  have m0 := q.cel 0 _ rfl
  have m1 := q.cel 1 _ rfl
  have m2 := q.cel 2 _ rfl
  have m3 := q.cel 3 _ rfl
  have l0 := q.live 0
  have l1 := q.live 1
  have l2 := q.live 2
  have l3 := q.live 3
  have HF : Hid (∀ W, Kept (fun c => c ≠ V.heap.size + 1) w1 W → Below V.heap.size V W ∧ Own V.heap.size W (.s a 1 c (gen1 0) .nil)) := fun W kW => by
    have hz := HZ.out
    have hb := HB.out
    exact ⟨Below.kept (hb.trans (b1.mono (by omega))) kW (fun c hc => by omega) (Nat.le_refl _), (o1.kept kW (fun c hc _ => by omega)).mono (by omega)⟩
  clear HC b1 o1 q
  go_wp2_with fail
  refine bodyPost_ret (v := .agg #[.int .i64 3, .int .i64 0, .string sList, .slice a 1 c]) (by simp [results, Try.results32, go_sem, m0, m1, m2, m3, sList]) rfl ⟨a, c, rfl, HF.out _ ?_⟩
  repeat first | (with_reducible refine Kept.set ?_ (by simp)) | with_reducible exact Kept.refl _ _

end Go.Proofs.Ytkjbkmhmghmodaa

namespace Go.Proofs.Ytkjbkmhmghmodaa
open Go.RowKit Go.Joins

def ncf : Nat → Nat
  | 0 => 4
  | 1 => 5
  | i + 2 => i + 5
def ndf : Nat → Nat
  | 0 => 5
  | 1 => 6
  | i + 2 => i + 6

theorem ncf_le : ∀ i, i ≤ 8 → ncf i ≤ 11 ∧ ndf i ≤ 12
  | 0, _ => by simp [ncf, ndf]
  | 1, _ => by simp [ncf, ndf]
  | i + 2, h => by simp only [ncf, ndf]; omega

theorem step_ct : ∀ i, i ≠ 1 → ct (i + 1) = (ct i).app (tupC i) ∧ dt (i + 1) = (dt i).app (tupD i) ∧ ncf (i + 1) = ncf i + 1 ∧ ndf (i + 1) = ndf i + 1
  | 0, _ => ⟨rfl, rfl, rfl, rfl⟩
  | 1, h => absurd rfl h
  | _ + 2, _ => ⟨rfl, rfl, rfl, rfl⟩

theorem gens_inn : ∀ j, (gens j).inn = []
  | 0 => rfl
  | j + 1 => by rw [gens, Fo.inn_app, gens_inn j]; rfl

/-- Fields that are coming. -/
structure FI (P : Nat → Prop) (M : Nat) (Lr : List Value) (A : World) (nc nd : Nat) (Cx Dx : Fo) (pc pd : Option Addr) (qc qd : Nat) (C D : Fo) (g j cap : Nat) (V : World) : Prop where
  mp : MP P M Lr A nc nd Cx Dx pc pd qc qd C D V
  hp : Hp P [.row 66 4 (.slice (some ⟨g, 0, none⟩) j cap) j (gens j), .row 43 5 (.slice pc nc qc) nc C, .row 124 3 (.slice pd nd qd) nd D] V

theorem FI.start {P : Nat → Prop} {M : Nat} {Lr : List Value} {A : World} {nc nd : Nat} {Cx Dx : Fo} {pc pd : Option Addr} {qc qd : Nat} {C D : Fo} {V : World} (h : MP P M Lr A nc nd Cx Dx pc pd qc qd C D V) :
    FI P M Lr V nc nd Cx Dx pc pd qc qd C D V.heap.size 0 0 (V.alloc (.cells #[] 66)) :=
  ⟨h.keep (Kept.alloc _ _ _) |> fun h' => { h' with kp := (Kept.alloc _ _ _) }, (h.hp.plain .nil (fun _ _ => trivial) rfl).build 66 4 0 h.pl rfl (Nat.zero_le _)⟩

theorem FI.step {P : Nat → Prop} {M : Nat} {Lr : List Value} {A : World} {nc nd : Nat} {Cx Dx : Fo} {pc pd : Option Addr} {qc qd : Nat} {C D : Fo} {g j cap g' cap' : Nat} {V wc w3 : World} (h : FI P M Lr A nc nd Cx Dx pc pd qc qd C D g j cap V) (k : Kept (fun _ => True) V wc) (hG : wc.grownBy w3 (some g))
    (hO : w3.ownsRow 0 66 4 (.slice (some ⟨g', 0, none⟩) (j + 1) cap') (j + 1) ((gens j).vals ++ [.int .i64 2, .int .i64 j, .string ⟨#[]⟩, .slice none 0 0])) (hat : (some g : Option Nat) = some g' ∨ g' = wc.heap.size) :
    FI P M Lr A nc nd Cx Dx pc pd qc qd C D g' (j + 1) cap' w3 := by
  have hPl : ∀ c, P c → c < wc.heap.size := fun c hc => Nat.lt_of_lt_of_le (h.mp.pl c hc) k.size
  have h1 := ((h.hp.keep k).plain (gen1 j) (gen1_subs j) rfl).perm (perm_b _ _ _)
  obtain ⟨h3, k3⟩ := h1.grow hPl hG hO (by
    rcases hat with e | e
    · exact .inl e.symm
    · rw [e]; exact .inr rfl)
  have hg : ¬ P g := fun hp => h1.fr g (by rw [bls_cons]; exact List.mem_append.2 (.inl (List.mem_append.2 (.inl (mem_ob.2 rfl))))) hp
  have kk : Kept P V w3 := (k.mono (fun _ _ _ => trivial)).trans (k3.mono (fun c _ hc e => hg (by have : g = c := Option.some.inj e; rw [this]; exact hc)))
  exact ⟨⟨h.mp.bm.kept kk h.mp.pm, h3.tail, h.mp.sc, h.mp.sd, h.mp.dl, h.mp.kp.trans (kk.mono (fun c _ hc => hc.1)), h.mp.pm, fun c hc => Nat.lt_of_lt_of_le (h.mp.pl c hc) kk.size⟩, h3⟩

/-- A data with fields waiting. -/
theorem FI.more {P : Nat → Prop} {M : Nat} {Lr : List Value} {A : World} {nc nd : Nat} {Cx Dx : Fo} {pc pd : Option Addr} {qc qd : Nat} {C D : Fo} {g j cap : Nat} {V : World} (h : FI P M Lr A nc nd Cx Dx pc pd qc qd C D g j cap V) (nm : ByteArray) (vars : Int) (hnd : nd ≤ 1000) :
    Calls Try.prog 29 #[.pointer (some ⟨M, 0, none⟩), .string nm, .int .i64 vars] V fun e V' => ∃ pd' qd', e = .returned (.agg #[.pointer (some ⟨M, 0, none⟩), .int .i64 nd]) ∧ Hid (MO P M Lr A nc nd Cx Dx nm vars 0 .nil pc pd' none qc qd' 0 C D V' ∧
      Hp P [.row 43 5 (.slice pc nc qc) nc C, .row 124 3 (.slice pd' (nd + 1) qd') (nd + 1) (D.app (.v (.string nm) (.v (.int .i64 vars) (.v (.slice none 0 0) .nil)))), .row 9 1 (.slice none 0 0) 0 .nil, .fo (.s (some ⟨g, 0, none⟩) j cap (gens j) .nil)] V') := by
  have hnd1 := h.hp.nd
  rw [bls_cons] at hnd1
  have hgi := gens_inn j
  have hbl : Item.bl (.row 66 4 (.slice (some ⟨g, 0, none⟩) j cap) j (gens j)) = [g] := by simp only [Item.bl, hgi, List.append_nil]; rfl
  rw [hbl] at hnd1
  have hgP : ¬ P g := h.hp.fr g (by rw [bls_cons, hbl]; simp)
  have hgl := h.hp.lt (c := g) (by rw [bls_cons, hbl]; simp)
  have hMg : g ≠ M := fun e => hgP (by rw [e]; exact h.mp.pm)
  have h1 : MP (fun c => P c ∨ c = g) M Lr V nc nd Cx Dx pc pd qc qd C D V := by
    refine ⟨h.mp.bm, h.mp.hp.mono (fun c hc hp hq => ?_), h.mp.sc, h.mp.sd, h.mp.dl, Kept.refl _ _, .inl h.mp.pm, fun c hc => by rcases hc with hc | hc; exact h.mp.pl c hc; omega⟩
    rcases hq with hq | hq
    · exact hp hq
    · have := (List.nodup_append.1 hnd1).2.2 g (by simp) c hc
      exact this hq.symm
  refine (m_more h1 nm vars hnd).mono ?_
  rintro e V' ⟨pd', qd', rfl, hh⟩
  have ho := hh.out
  refine ⟨pd', qd', rfl, ⟨ho.bm, ho.hp.mono (fun c _ hp hq => hp (.inl hq)), ho.sc, ho.sd, ho.dl, h.mp.kp.trans (ho.kp.mono (fun c _ hc => ⟨.inl hc.1, hc.2⟩)), h.mp.pm, fun c hc => ho.pl c (.inl hc)⟩, ?_⟩
  have hi := (h.hp.ok _ List.mem_cons_self).kept ho.kp (fun c hc => by rw [hbl] at hc; have : c = g := by simpa using hc
                                                                       rw [this]; exact ⟨.inr rfl, hMg⟩)
  have h4 := ho.hp.join (P := P) hi (by rw [hbl]; simp) (fun c hc => by rw [hbl] at hc; have : c = g := by simpa using hc
                                                                        exact .inr this) (fun c hc => by rw [hbl] at hc; have : c = g := by simpa using hc
                                                                                                         rw [this]; exact hgP) (fun c hc => .inl hc)
  obtain ⟨a, c, e, h5⟩ := h4.shut
  cases e
  exact h5.perm (rot4 _ _ _ _).symm

end Go.Proofs.Ytkjbkmhmghmodaa

namespace Go.Proofs.Ytkjbkmhmghmodaa
open Go.RowKit Go.Joins

def z3 : List Value := [.slice none 0 0, .slice none 0 0, .slice none 0 0]

/-- A constructor without fields, a box kept. -/
theorem m_con0 {P : Nat → Prop} {M : Nat} {Lr : List Value} {V0 V : World} {nc nd : Nat} {Cx Dx : Fo} {nm : ByteArray} {vars : Int} {k : Nat} {N : Fo} {pc pd na : Option Addr} {qc qd ncap : Nat} {C D : Fo} (h : MO P M Lr V0 nc nd Cx Dx nm vars k N pc pd na qc qd ncap C D V) (x : ByteArray) (hnc : nc ≤ 1000) (hk : k ≤ 1000) (hnd : nd ≤ 1000) :
    Calls Try.prog 30 #[.agg #[.pointer (some ⟨M, 0, none⟩), .int .i64 nd], .string x, .slice none 0 0] V fun e V' => ∃ pc' qc' na' ncap' C', e = .returned (.tuple #[]) ∧ Hid (MO P M Lr V (nc + 1) nd (Cx.app (con5 x nm k vars none 0 0 .nil)) Dx nm vars (k + 1) (N.app (.v (.string x) .nil)) pc' pd na' qc' qd ncap' C' D V') :=
  m_con (h.keep (Kept.refl _ _)) x none 0 0 .nil .nil trivial ((h.hp.plain (.s none 0 0 .nil .nil) (fun _ _ => ⟨⟨Nat.le_refl _, Nat.zero_le _, fun h => by simp [Fo.len] at h⟩, trivial⟩) rfl).perm (rot4 _ _ _ _).symm) hnc hk hnd

theorem MO.base {P : Nat → Prop} {M : Nat} {Lr : List Value} {V0 A : World} {nc nd : Nat} {Cx Dx : Fo} {nm : ByteArray} {vars : Int} {k : Nat} {N : Fo} {pc pd na : Option Addr} {qc qd ncap : Nat} {C D : Fo} {V : World} (h : MO P M Lr V0 nc nd Cx Dx nm vars k N pc pd na qc qd ncap C D V) (kA : Kept (fun c => P c ∧ c ≠ M) A V0) :
    MO P M Lr A nc nd Cx Dx nm vars k N pc pd na qc qd ncap C D V := { h with kp := kA.trans h.kp }

def cxA : Fo := (told sBool 0 0 kB).app (told sList 1 0 (con0 sList))
def dxA : Fo := dat sBool 0 2 (names kB)

/-- The list's second constructor. -/
theorem m_conL {P : Nat → Prop} {M : Nat} {V0 V w6 w7 : World} {pc pd na : Option Addr} {qc qd ncap : Nat} {C D : Fo} (h : MO P M z3 V0 3 1 cxA dxA sList 1 1 (.v (.string sList) .nil) pc pd na qc qd ncap C D V) (la : Option Addr) (lc : Nat) (k6 : Kept (fun _ => True) V w6) (b7 : Below w6.heap.size w6 w7) (o7 : Own w6.heap.size w7 (.s la 1 lc (gen1 0) .nil)) :
    Calls Try.prog 30 #[.agg #[.pointer (some ⟨M, 0, none⟩), .int .i64 1], .string sCons, .slice (some ⟨w7.heap.size, 0, none⟩) 2 2] (w7.alloc (.cells #[.int .i64 2, .int .i64 0, .string ⟨#[]⟩, .slice none 0 0, .int .i64 3, .int .i64 0, .string sList, .slice la 1 lc] 66)) fun e V' => ∃ pc' qc' na' ncap' C', e = .returned (.tuple #[]) ∧ Hid (MO P M z3 V 4 1 cx1 dxA sList 1 2 (.v (.string sList) (.v (.string sCons) .nil)) pc' pd na' qc' qd ncap' C' D V') := by
  have k7 : Kept (fun _ => True) V w7 := k6.trans (kt b7)
  have z7 := b7.size
  have z6 := k6.size
  have hP : ∀ c, P c → c < w7.heap.size := fun c hc => by have := h.pl c hc; omega
  have h1 : Hp P [.fo (.s la 1 lc (gen1 0) .nil), .row 43 5 (.slice pc 3 qc) 3 C, .row 124 3 (.slice pd (1 + 1) qd) (1 + 1) (D.app (.v (.string sList) (.v (.int .i64 1) (.v (.slice na 1 ncap) .nil)))), .row 9 1 (.slice na 1 ncap) 1 (.v (.string sList) .nil)] w7 :=
    (h.hp.keep k7).of_own o7 (fun c hc hp => by have := h.pl c hp; omega) (fun c hc => by have := h.hp.lt hc; omega)
  have h2 := Hp.v (.int .i64 3) (Hp.v (.int .i64 0) (Hp.v (.string sList) h1))
  have h3 := (h2.plain (gen1 0) (gen1_subs 0) rfl).app
  have h4 := h3.build 66 4 2 hP rfl (by unfold maxLen; omega)
  obtain ⟨a, c, e, h5⟩ := h4.shut
  cases e
  have ku : Kept (fun _ => True) w7 (w7.alloc (.cells #[.int .i64 2, .int .i64 0, .string ⟨#[]⟩, .slice none 0 0, .int .i64 3, .int .i64 0, .string sList, .slice la 1 lc] 66)) := Kept.alloc _ _ _
  refine (m_con ((h.keep (k7.trans ku)).base ((k7.trans ku).mono (fun _ _ _ => trivial))) sCons (some ⟨w7.heap.size, 0, none⟩) 2 2 _ (kLs none 0) ?_ (h5.perm (rot4 _ _ _ _).symm) (by omega) (by omega) (by omega)).mono ?_
  · exact ⟨rfl, rfl, rfl, rfl, trivial, rfl, rfl, rfl, rfl, Fo.sim.refl _, trivial⟩
  · rintro e V' ⟨pc', qc', na', ncap', C', rfl, hh⟩
    exact ⟨pc', qc', na', ncap', C', rfl, hh⟩

set_option maxHeartbeats 8000000 in
set_option maxRecDepth 100000 in
theorem m_Builtins (W : World) : Calls Try.prog 7 #[] W fun e W' => ∃ R : Fo, e = .returned (.agg R.vals.toArray) ∧ R.sim ansB ∧ Below W.heap.size W W' ∧ R.Subs W' (fun c => c < W'.heap.size) := by
  obtain ⟨V0, hV0⟩ : ∃ V0, W.alloc (.cells #[.slice none 0 0, .slice none 0 0, .slice none 0 0, .slice none 0 0, .slice none 0 0] 28) = V0 := ⟨_, rfl⟩
  obtain ⟨V1, hV1⟩ : ∃ V1, V0.alloc (.cells #[.slice none 0 0, .slice none 0 0, .slice none 0 0, .slice none 0 0, .slice none 0 0] 28) = V1 := ⟨_, rfl⟩
  have z0 : V0.heap.size = W.heap.size + 1 := by rw [← hV0]; simp
  have z1 : V1.heap.size = W.heap.size + 1 + 1 := by rw [← hV1, World.size_alloc, z0]
  have k0 : Kept (fun _ => True) W V0 := by rw [← hV0]; exact Kept.alloc _ _ _
  have k1 : Kept (fun _ => True) V0 V1 := by rw [← hV1]; exact Kept.alloc _ _ _
  have q0 : Bx V1 W.heap.size [.slice none 0 0, .slice none 0 0, .slice none 0 0, .slice none 0 0, .slice none 0 0] := by
    have := Bx.new W [.slice none 0 0, .slice none 0 0, .slice none 0 0, .slice none 0 0, .slice none 0 0] 28
    rw [hV0] at this
    exact this.kept k1 trivial
  have q1 : Bx V1 (W.heap.size + 1) (.slice none 0 0 :: .slice none 0 0 :: z3) := by
    have := Bx.new V0 (.slice none 0 0 :: .slice none 0 0 :: z3) 28
    rw [z0] at this
    have e : V0.alloc (.cells (.slice none 0 0 :: .slice none 0 0 :: z3).toArray 28) = V1 := hV1
    rw [e] at this
    exact this
  have h1 : MP (fun c => c ≤ W.heap.size + 1) (W.heap.size + 1) z3 V1 0 0 .nil .nil none none 0 0 .nil .nil V1 := ⟨q1, ((Hp.nil _ _).empty 124 3).empty 43 5, trivial, trivial, rfl, Kept.refl _ _, Nat.le_refl _, fun c hc => by omega⟩
  have HC1 := hide (m_more h1 sBool 0 (by omega))
  have HV1 : Hid (((W.alloc (.cells #[.slice none 0 0, .slice none 0 0, .slice none 0 0, .slice none 0 0, .slice none 0 0] 28)).alloc (.cells #[.slice none 0 0, .slice none 0 0, .slice none 0 0, .slice none 0 0, .slice none 0 0] 28)) = V1) := by unfold Hid; rw [hV0, hV1]
  have HQ0 := hide q0
  have HK01 : Hid (Below W.heap.size W V1) := (k0.trans k1).below (fun _ _ => trivial) (Nat.le_refl _)
  clear hV0 hV1 z0 z1 k0 k1 q0 q1 h1
  go_enter Try.func7, Try.ntmps7
  go_wp2_with fail
  rw [HV1.out]
  clear HV1
  refine HC1.out.mono ?_
  rintro e w1 ⟨pd1, qd1, rfl, h2⟩
  clear HC1
  obtain ⟨u1, hu1⟩ : ∃ u1, w1.alloc (.cells #[.pointer (some ⟨W.heap.size + 1, 0, none⟩), .int .i64 ((0 : Nat) : Int)] 62) = u1 := ⟨_, rfl⟩
  have ku1 : Kept (fun _ => True) w1 u1 := by rw [← hu1]; exact Kept.alloc _ _ _
  have bu1 : Bx u1 w1.heap.size [.pointer (some ⟨W.heap.size + 1, 0, none⟩), .int .i64 0] := by rw [← hu1]; exact Bx.new _ _ _
  have h3 := h2.out.guard ku1 (Nat.le_refl _) bu1.lt
  have hMT : W.heap.size + 1 ≠ w1.heap.size := by have := h2.out.bm.lt; omega
  have HK1 : Hid (Kept (fun c => c ≤ W.heap.size) V1 u1) := (h2.out.kp.mono (fun c _ hc => ⟨by omega, by omega⟩)).trans (ku1.mono (fun _ _ _ => trivial))
  have HC2 := hide (m_con0 h3 sFalse (by omega) (by omega) (by omega))
  have HBU := hide bu1
  have HU1 : Hid (w1.alloc (.cells #[.pointer (some ⟨W.heap.size + 1, 0, none⟩), .int .i64 0] 62) = u1) := hu1
  have t0 : u1.cell? ⟨w1.heap.size, 0, none⟩ = some (.pointer (some ⟨W.heap.size + 1, 0, none⟩)) := bu1.cel 0 _ rfl
  have t1 : u1.cell? ⟨w1.heap.size, 1, none⟩ = some (.int .i64 0) := bu1.cel 1 _ rfl
  have HMT := hide hMT
  clear hu1 ku1 bu1 h3 h2 hMT
  go_upto_region 3 with fail
  rw [HU1.out]
  clear HU1
  go_wp2_with fail
  refine HC2.out.mono ?_
  rintro e w2 ⟨pc2, qc2, na2, cc2, C2, rfl, h4⟩
  clear HC2 t0 t1
  have HBU2 := hide (HBU.out.kept h4.out.kp ⟨.inr rfl, fun e => HMT.out e.symm⟩)
  have HK2 : Hid (Kept (fun c => c ≤ W.heap.size) V1 w2) := HK1.out.trans (h4.out.kp.mono (fun c _ hc => ⟨.inl (by omega), by omega⟩))
  have t0 : w2.cell? ⟨w1.heap.size, 0, none⟩ = some (.pointer (some ⟨W.heap.size + 1, 0, none⟩)) := HBU2.out.cel 0 _ rfl
  have t1 : w2.cell? ⟨w1.heap.size, 1, none⟩ = some (.int .i64 0) := HBU2.out.cel 1 _ rfl
  have HC3 := hide (m_con0 h4.out sTrue (by omega) (by omega) (by omega))
  clear h4 HBU HK1
  go_wp2_with fail
  refine HC3.out.mono ?_
  rintro e w3 ⟨pc3, qc3, na3, cc3, C3, rfl, h5⟩
  clear HC3 t0 t1
  have HK3 : Hid (Kept (fun c => c ≤ W.heap.size) V1 w3) := HK2.out.trans (h5.out.kp.mono (fun c _ hc => ⟨.inl (by omega), by omega⟩))
  have h6 := (h5.out.close.less (Q := fun c => c ≤ W.heap.size + 1) (fun c hc => .inl hc) (Nat.le_refl _)).keep (Kept.refl _ _)
  have HC4 := hide (m_more h6 sList 1 (by omega))
  clear h5 h6 HBU2 HK2 HMT
  go_wp2_with fail
  refine HC4.out.mono ?_
  rintro e w4 ⟨pd4, qd4, rfl, h7⟩
  clear HC4
  obtain ⟨u4, hu4⟩ : ∃ u4, w4.alloc (.cells #[.pointer (some ⟨W.heap.size + 1, 0, none⟩), .int .i64 ((0 + 1 : Nat) : Int)] 62) = u4 := ⟨_, rfl⟩
  have ku4 : Kept (fun _ => True) w4 u4 := by rw [← hu4]; exact Kept.alloc _ _ _
  have bu4 : Bx u4 w4.heap.size [.pointer (some ⟨W.heap.size + 1, 0, none⟩), .int .i64 1] := by rw [← hu4]; exact Bx.new _ _ _
  have h8 := h7.out.guard ku4 (Nat.le_refl _) bu4.lt
  have hMT : W.heap.size + 1 ≠ w4.heap.size := by have := h7.out.bm.lt; omega
  have HK4 : Hid (Kept (fun c => c ≤ W.heap.size) V1 u4) := (HK3.out.trans (h7.out.kp.mono (fun c _ hc => ⟨by omega, by omega⟩))).trans (ku4.mono (fun _ _ _ => trivial))
  have HC5 := hide (m_con0 h8 sList (by omega) (by omega) (by omega))
  have HBU := hide bu4
  have HU4 : Hid (w4.alloc (.cells #[.pointer (some ⟨W.heap.size + 1, 0, none⟩), .int .i64 1] 62) = u4) := hu4
  have t0 : u4.cell? ⟨w4.heap.size, 0, none⟩ = some (.pointer (some ⟨W.heap.size + 1, 0, none⟩)) := bu4.cel 0 _ rfl
  have t1 : u4.cell? ⟨w4.heap.size, 1, none⟩ = some (.int .i64 1) := bu4.cel 1 _ rfl
  have HMT := hide hMT
  clear hu4 ku4 bu4 h8 h7 hMT HK3
  go_upto_region 6 with fail
  rw [HU4.out]
  clear HU4
  go_wp2_with fail
  refine HC5.out.mono ?_
  rintro e w5 ⟨pc5, qc5, na5, cc5, C5, rfl, h9⟩
  clear HC5 t0 t1
  have HBU5 := hide (HBU.out.kept h9.out.kp ⟨.inr rfl, fun e => HMT.out e.symm⟩)
  have HK5 : Hid (Kept (fun c => c ≤ W.heap.size) V1 w5) := HK4.out.trans (h9.out.kp.mono (fun c _ hc => ⟨.inl (by omega), by omega⟩))
  have H9 := hide h9.out
  clear h9 HBU HK4
  obtain ⟨D5, H9'⟩ : ∃ D5, Hid (MO (fun c => c ≤ W.heap.size + 1 ∨ c = w4.heap.size) (W.heap.size + 1) z3 u4 3 1 cxA dxA sList 1 1 (.v (.string sList) .nil) pc5 pd4 na5 qc5 qd4 cc5 C5 D5 w5) := ⟨_, H9⟩
  have HSQ : Hid (∀ V, Kept (fun _ => True) w5 V → V.cell? ⟨w4.heap.size, 0, none⟩ = some (.pointer (some ⟨W.heap.size + 1, 0, none⟩)) ∧ V.cell? ⟨w4.heap.size, 1, none⟩ = some (.int .i64 1)) := fun V kV => by
    have q := HBU5.out.kept kV trivial
    exact ⟨q.cel 0 _ rfl, q.cel 1 _ rfl⟩
  have HSR : Hid (∀ V, Kept (fun c => (c ≤ W.heap.size + 1 ∨ c = w4.heap.size) ∧ c ≠ W.heap.size + 1) w5 V → V.cell? ⟨w4.heap.size, 0, none⟩ = some (.pointer (some ⟨W.heap.size + 1, 0, none⟩)) ∧ V.cell? ⟨w4.heap.size, 1, none⟩ = some (.int .i64 1)) := fun V kV => by
    have q := HBU5.out.kept kV ⟨.inr rfl, fun e => HMT.out e.symm⟩
    exact ⟨q.cel 0 _ rfl, q.cel 1 _ rfl⟩
  have k0' := HSQ.out w5.drew (Kept.refl _ _).dr
  clear H9
  go_upto_region 7 with fail
  go_cut [] (fun wy => ∃ (pc na : Option Addr) (qc ncap : Nat) (C : Fo), Hid (MO (fun c => c ≤ W.heap.size + 1 ∨ c = w4.heap.size) (W.heap.size + 1) z3 w5 4 1 cx1 dxA sList 1 2 (.v (.string sList) (.v (.string sCons) .nil)) pc pd4 na qc qd4 ncap C D5 wy))
  case first =>
    go_region_held3 (fun V => V.cell? ⟨w4.heap.size, 0, none⟩ = some (.pointer (some ⟨W.heap.size + 1, 0, none⟩)) ∧ V.cell? ⟨w4.heap.size, 1, none⟩ = some (.int .i64 1))
      (first | with_reducible exact S8 | with_reducible exact S7 | with_reducible exact S6 | with_reducible exact k0' | with_reducible exact HSQ.out _ HK7.out.al)
      (first
        | (go_at_call 31; refine (m_gen 0 _).mono ?_; rintro e w6 ⟨rfl, b6⟩; have HK6 : Hid (Kept (fun _ => True) w5 w6) := Kept.trans (by first | with_reducible exact HK6.out | with_reducible exact (Kept.refl _ _).dr) (kt b6); have S6 := HSQ.out w6 HK6.out; clear b6)
        | (go_at_call 32; refine (m_list w6).mono ?_; rintro e w7 ⟨la, lc, rfl, b7, o7⟩; have HK7 : Hid (Kept (fun _ => True) w5 w7) := HK6.out.trans (kt b7); have S7 := HSQ.out w7 HK7.out; have HB7 := hide b7; have HO7 := hide o7; clear b7 o7)
        | (go_at_call 30; refine (m_conL H9'.out la lc HK6.out HB7.out HO7.out).mono ?_; rintro e w8 ⟨pc8, qc8, na8, cc8, C8, rfl, h8⟩; have S8 := HSR.out w8 h8.out.kp))
    all_goals
      go_wp2_with fail
      go_meet
      case rel => exact ⟨_, _, _, _, _, h8⟩
  case rest =>
    obtain ⟨pcy, nay, qcy, ccy, Cy, hy⟩ := hcut
    rename World => wy
    have HKY : Hid (Kept (fun c => c ≤ W.heap.size) V1 wy) := HK5.out.trans (hy.out.kp.mono (fun c _ hc => ⟨.inl (by omega), by omega⟩))
    have HC8 := hide (m_more ((hy.out.close.less (Q := fun c => c ≤ W.heap.size + 1) (fun c hc => .inl hc) (Nat.le_refl _)).keep (Kept.refl _ _)) sInt 0 (by omega))
    clear hy H9' HSQ HSR k0' HBU5 HMT HK5
    go_wp2_with fail
    refine HC8.out.mono ?_
    rintro e w8 ⟨pd8, qd8, rfl, h8⟩
    clear HC8
    have HK8 : Hid (Kept (fun c => c ≤ W.heap.size) V1 w8) := HKY.out.trans (h8.out.kp.mono (fun c _ hc => ⟨by omega, by omega⟩))
    have HC9 := hide (m_more (h8.out.close.keep (Kept.refl _ _)) sChar 0 (by omega))
    clear h8 HKY
    go_wp2_with fail
    refine HC9.out.mono ?_
    rintro e w9 ⟨pd9, qd9, rfl, h9⟩
    clear HC9
    have HK9 : Hid (Kept (fun c => c ≤ W.heap.size) V1 w9) := HK8.out.trans (h9.out.kp.mono (fun c _ hc => ⟨by omega, by omega⟩))
    have HCA := hide (m_more (h9.out.close.keep (Kept.refl _ _)) sArrow 2 (by omega))
    clear h9 HK8
    go_wp2_with fail
    refine HCA.out.mono ?_
    rintro e wA ⟨pdA, qdA, rfl, hA⟩
    clear HCA
    have HKA : Hid (Kept (fun c => c ≤ W.heap.size) V1 wA) := HK9.out.trans (hA.out.kp.mono (fun c _ hc => ⟨by omega, by omega⟩))
    obtain ⟨DA, HA⟩ : ∃ DA, Hid (MP (fun c => c ≤ W.heap.size + 1) (W.heap.size + 1) z3 wA (ncf 0) (ndf 0) (ct 0) (dt 0) pcy pdA qcy qdA Cy DA wA) := ⟨_, hA.out.close.keep (Kept.refl _ _)⟩
    clear hA HK9
    go_wp2_with fail
    go_loopw [4] (fun s4 wr => ∃ (i : Nat) (pc pd : Option Addr) (qc qd : Nat) (C D : Fo), s4 = .int .i64 i ∧ i ≤ 8 ∧ Hid (MP (fun c => c ≤ W.heap.size + 1) (W.heap.size + 1) z3 wr (ncf i) (ndf i) (ct i) (dt i) pc pd qc qd C D wr) ∧ Hid (Kept (fun c => c ≤ W.heap.size) V1 wr)) (fun s4 _ => 8 - (intOf s4).toNat)
    case atStart => exact ⟨0, _, _, _, _, _, _, rfl, by omega, HA, HKA⟩
    case round =>
      obtain ⟨i, pc, pd, qc, qd, C, D, rfl, hi8, hL, hKL⟩ := hrel
      clear HA HKA
      by_cases hi : i ≤ 7
      · have hii : (i : Int) ≤ 7 := by omega
        by_cases hi1 : i = 1
        · subst hi1
          have H2 : Hid (MP (fun c => c ≤ W.heap.size + 1) (W.heap.size + 1) z3 wr (ncf 2) (ndf 2) (ct 2) (dt 2) pc pd qc qd C D wr) := hL
          clear hL
          go_wp2_with fail
          go_roundw
          case rel => exact ⟨2, _, _, _, _, _, _, by go_num, by omega, H2, hKL⟩
          case measure => simp [intOf]
        · have hne : ((i : Int) == 1) = false := by rw [beq_eq_false_iff_ne]; omega
          obtain ⟨e1, e2, e3, e4⟩ := step_ct i hi1
          obtain ⟨l1, l2⟩ := ncf_le i hi8
          generalize hnc : ncf i = nc at hL e3 l1
          generalize hnd : ndf i = nd at hL e4 l2
          have HE := hide (And.intro e1 (And.intro e2 (And.intro e3 e4)))
          clear e1 e2 e3 e4 hnc hnd
          have HF : Hid (FI (fun c => c ≤ W.heap.size + 1) (W.heap.size + 1) z3 wr nc nd (ct i) (dt i) pc pd qc qd C D wr.heap.size 0 0 (wr.alloc (.cells #[] 66))) := FI.start hL.out
          clear hL
          go_wp2_with fail
          go_loopw [5, 6] (fun s5 s6 wq => ∃ (j g cap : Nat), s5 = .slice (some ⟨g, 0, none⟩) j cap ∧ s6 = .int .i64 j ∧ j ≤ i ∧ Hid (FI (fun c => c ≤ W.heap.size + 1) (W.heap.size + 1) z3 wr nc nd (ct i) (dt i) pc pd qc qd C D g j cap wq)) (fun _ s6 _ => i - (intOf s6).toNat)
          case atStart => exact ⟨0, _, 0, rfl, rfl, Nat.zero_le _, HF⟩
          case round =>
            obtain ⟨j, g, cap, rfl, rfl, hj, hI⟩ := hrel
            by_cases hji : j < i
            · have hjj : (j : Int) < i := by omega
              have HCG := hide (m_gen (j : Int) wr)
              have HN9 : Hid (∀ Wc, Kept (fun _ => True) wr Wc → Wc.ownsRow 0 66 4 (.slice (some ⟨g, 0, none⟩) j cap) j (gens j).vals) := fun Wc k => ownsRow_kept (hI.out.hp.ok _ List.mem_cons_self).1 k (fun _ _ => trivial)
              have h63 : Hid (j + 1 ≤ maxLen ∧ (j + 1) * 56 ≤ 140737488355328) := ⟨by unfold maxLen; omega, by omega⟩
              have HST : Hid (∀ wc w3 g' cap', Kept (fun _ => True) wr wc → wc.grownBy w3 (some g) → w3.ownsRow 0 66 4 (.slice (some ⟨g', 0, none⟩) (j + 1) cap') (j + 1) ((gens j).vals ++ [.int .i64 2, .int .i64 j, .string ⟨#[]⟩, .slice none 0 0]) → ((some g : Option Nat) = some g' ∨ g' = wc.heap.size) → _) := fun wc w3 g' cap' k hG hO hat => FI.step hI.out k hG hO hat
              clear hI HF
              go_wp2_with fail
              refine HCG.out.mono ?_
              rintro e w6 ⟨rfl, b6⟩
              have HK6 : Hid (Kept (fun _ => True) wr w6) := kt b6
              clear b6 HCG
              go_wp2_with (at_builtin; refine ur_stepL rfl _ _ 41 66 rfl Try.info66 Try.underlying41 rfl (by decide) 0 (w6.alloc (.cells #[.int .i64 2, .int .i64 j, .string ⟨#[]⟩, .slice none 0 0] 66)) (.slice (some ⟨g, 0, none⟩) j cap) j (gens j).vals [.int .i64 2, .int .i64 j, .string ⟨#[]⟩, .slice none 0 0] _ _ rfl rfl (Nat.zero_le _) (HN9.out _ HK6.out.al) (heap_new _ _) rfl (by simp [Value.oneCell']) h63.out.1 h63.out.2 ?_; intro g7 c7 w3 hO7 hG7 hat7; have HA7 := hide (HST.out _ w3 g7 c7 HK6.out.al hG7 hO7 hat7); clear hO7 hG7 hat7)
              go_roundw
              case rel => exact ⟨j + 1, _, _, rfl, by go_num, by omega, HA7⟩
              case measure => simp [intOf]; omega
            · have hjj : ¬ (j : Int) < i := by omega
              have hji' : j = i := by omega
              subst hji'
              have HT1 := hide (m_tuple j wr hi)
              have HM1 := hide (FI.more hI.out (tupS j) (j : Int) (by omega))
              clear hI HF
              go_wp2_with fail
              refine HT1.out.mono ?_
              rintro e w6 ⟨rfl, hw6⟩
              subst hw6
              go_wp2_with fail
              refine HM1.out.mono ?_
              rintro e w7 ⟨pd7, qd7, rfl, h7⟩
              clear HM1 HT1
              have HT2 := hide (m_tuple j w7 hi)
              have HK7 : Hid (Kept (fun c => c ≤ W.heap.size) V1 w7) := hKL.out.trans (h7.out.1.kp.mono (fun c _ hc => ⟨by omega, by omega⟩))
              have HC7 := hide (m_con (h7.out.1.keep (Kept.refl _ _)) (tupS j) (some ⟨g, 0, none⟩) j cap (gens j) (gens j) (Fo.sim.refl _) h7.out.2 (by omega) (by omega) (by omega))
              clear h7 hKL
              go_wp2_with fail
              refine HT2.out.mono ?_
              rintro e w8 ⟨rfl, hw8⟩
              subst hw8
              go_wp2_with fail
              refine HC7.out.mono ?_
              rintro e w9 ⟨pc9, qc9, na9, cc9, C9, rfl, h9⟩
              clear HC7 HT2
              have HK9 : Hid (Kept (fun c => c ≤ W.heap.size) V1 w9) := HK7.out.trans (h9.out.kp.mono (fun c _ hc => ⟨by omega, by omega⟩))
              obtain ⟨D9, H9⟩ : ∃ D9, Hid (MP (fun c => c ≤ W.heap.size + 1) (W.heap.size + 1) z3 w9 (ncf (j + 1)) (ndf (j + 1)) (ct (j + 1)) (dt (j + 1)) pc9 pd7 qc9 qd7 C9 D9 w9) := by
                obtain ⟨e1, e2, e3, e4⟩ := HE.out
                rw [e1, e2, e3, e4]
                exact ⟨_, h9.out.close.keep (Kept.refl _ _)⟩
              clear h9 HK7
              go_wp2_with fail
              go_roundw
              case rel => exact ⟨j + 1, _, _, _, _, _, _, by go_num, by omega, H9, HK9⟩
              case measure => simp [intOf]; omega
      · have hii : ¬ (i : Int) ≤ 7 := by omega
        have hi' : i = 8 := by omega
        subst hi'
        have HL := hide hL.out
        have q0 := HQ0.out.kept hKL.out (Nat.le_refl _)
        have m0 := q0.cel 0 _ rfl
        have m1 := q0.cel 1 _ rfl
        have m2 := q0.cel 2 _ rfl
        have m3 := q0.cel 3 _ rfl
        have m4 := q0.cel 4 _ rfl
        have l0 := q0.live 0
        have l1 := q0.live 1
        have l2 := q0.live 2
        have l3 := q0.live 3
        have l4 := q0.live 4
        have r0 : wr.cell? ⟨W.heap.size + 1, 0, none⟩ = some (.slice pc 11 qc) := hL.out.bm.cel 0 _ rfl
        have r1 : wr.cell? ⟨W.heap.size + 1, 1, none⟩ = some (.slice pd 12 qd) := hL.out.bm.cel 1 _ rfl
        have r2 := hL.out.bm.cel 2 _ rfl
        have r3 := hL.out.bm.cel 3 _ rfl
        have r4 := hL.out.bm.cel 4 _ rfl
        clear q0 hL
        go_wp2_with fail
        refine bodyPost_ret (v := .agg #[.slice pc 11 qc, .slice pd 12 qd, .slice none 0 0, .slice none 0 0, .slice none 0 0]) (by simp [results, Try.results7, go_sem, m0, m1, m2, m3, m4]) rfl ⟨.s pc 11 qc C (.s pd 12 qd D (.s none 0 0 .nil (.s none 0 0 .nil (.s none 0 0 .nil .nil)))), rfl, ?_, ?_⟩
        · exact ⟨rfl, HL.out.sc, rfl, HL.out.sd, rfl, trivial, rfl, trivial, rfl, trivial, trivial⟩
        · refine (fun (V : World) (kV : Kept (fun c => c ≠ W.heap.size) wr V) => (?_ : Below W.heap.size W V ∧ Fo.Subs V (fun c => c < V.heap.size) (.s pc 11 qc C (.s pd 12 qd D (.s none 0 0 .nil (.s none 0 0 .nil (.s none 0 0 .nil .nil))))))) _ ?_
          · refine ⟨Below.kept (Below.kept HK01.out hKL.out (fun c hc => by omega) (Nat.le_refl _)) kV (fun c hc => by omega) (Nat.le_refl _), ?_⟩
            have hhp : Hp (fun c => c ≤ W.heap.size + 1) [.row 43 5 (.slice pc 11 qc) 11 C, .row 124 3 (.slice pd 12 qd) 12 D] wr := HL.out.hp
            obtain ⟨a1, b1, e1, h1⟩ := hhp.shut
            cases e1
            obtain ⟨a2, b2, e2, h2⟩ := (h1.perm (perm_b _ _ _)).shut
            cases e2
            have hn : ∀ W S, Fo.Subs W S (.s none 0 0 .nil (.s none 0 0 .nil (.s none 0 0 .nil .nil))) := fun W S => ⟨⟨Nat.le_refl _, Nat.zero_le _, fun h => by simp [Fo.len] at h⟩, ⟨Nat.le_refl _, Nat.zero_le _, fun h => by simp [Fo.len] at h⟩, ⟨Nat.le_refl _, Nat.zero_le _, fun h => by simp [Fo.len] at h⟩, trivial⟩
            have h3 := (h2.perm (perm_b _ _ _)).app
            have h4 := ((h3.plain (.s none 0 0 .nil (.s none 0 0 .nil (.s none 0 0 .nil .nil))) hn rfl).perm (perm_b _ _ _)).app
            have h5 := h4.kept kV (fun c hc e => h4.fr c hc (by omega))
            exact (h5.ok _ List.mem_cons_self).1
          · repeat first | (with_reducible refine Kept.set ?_ (by simp)) | with_reducible exact Kept.refl _ _

end Go.Proofs.Ytkjbkmhmghmodaa

namespace Go.Proofs.Ytkjbkmhmghmodaa
open Go.RowKit Go.Joins

theorem tupS_size (k : Nat) (hk : k ≤ 7) : (tupS k).size ≤ maxLen := by
  unfold tupS maxLen
  simp only [ByteArray.size_append]
  have e1 : (⟨#[40]⟩ : ByteArray).size = 1 := rfl
  have e2 : (⟨#[41]⟩ : ByteArray).size = 1 := rfl
  have e3 : (⟨(List.replicate (k - 1) 44).toArray⟩ : ByteArray).size = k - 1 := by simp [ByteArray.size]
  omega

theorem tupC_fit (k : Nat) (hk : k ≤ 7) : Fit E (tupC k) (E 3) := ⟨tupS_size k hk, tupS_size k hk, by decide, wf_small k hk, gens_fit k hk, trivial⟩
theorem tupD_fit (k : Nat) (hk : k ≤ 7) : Fit E (tupD k) (E 4) := ⟨tupS_size k hk, wf_small k hk, ⟨tupS_size k hk, trivial⟩, trivial⟩

theorem cx1_fit : Fit E cx1 (rep (E 3) 4) := ⟨by decide, by decide, by decide, by decide, trivial, by decide, by decide, by decide, by decide, trivial, by decide, by decide, by decide, by decide, trivial, by decide, by decide, by decide, by decide, ⟨by decide, by decide, by decide, trivial, by decide, by decide, by decide, ⟨by decide, by decide, by decide, trivial, trivial⟩, trivial⟩, trivial⟩
theorem dx1_fit : Fit E dx1 (rep (E 4) 5) := ⟨by decide, by decide, ⟨by decide, by decide, trivial⟩, by decide, by decide, ⟨by decide, by decide, trivial⟩, by decide, by decide, trivial, by decide, by decide, trivial, by decide, by decide, trivial, trivial⟩

theorem ct_fit : ∀ i, i ≤ 8 → Fit E (ct i) (rep (E 3) (ncf i)) ∧ Fit E (dt i) (rep (E 4) (ndf i))
  | 0, _ => ⟨cx1_fit, dx1_fit⟩
  | 1, _ => by
    have e1 : rep (E 3) 5 = rep (E 3) 4 ++ E 3 := (rep_snoc _ _).symm
    have e2 : rep (E 4) 6 = rep (E 4) 5 ++ E 4 := (rep_snoc _ _).symm
    simp only [ncf, ndf, ct, dt]
    rw [e1, e2]
    exact ⟨cx1_fit.app (tupC_fit 0 (by omega)), dx1_fit.app (tupD_fit 0 (by omega))⟩
  | 2, _ => by
    have e1 : rep (E 3) 5 = rep (E 3) 4 ++ E 3 := (rep_snoc _ _).symm
    have e2 : rep (E 4) 6 = rep (E 4) 5 ++ E 4 := (rep_snoc _ _).symm
    simp only [ncf, ndf, ct, dt]
    rw [e1, e2]
    exact ⟨cx1_fit.app (tupC_fit 0 (by omega)), dx1_fit.app (tupD_fit 0 (by omega))⟩
  | i + 3, h => by
    obtain ⟨h1, h2⟩ := ct_fit (i + 2) (by omega)
    have e1 : rep (E 3) (ncf (i + 3)) = rep (E 3) (ncf (i + 2)) ++ E 3 := (rep_snoc _ _).symm
    have e2 : rep (E 4) (ndf (i + 3)) = rep (E 4) (ndf (i + 2)) ++ E 4 := (rep_snoc _ _).symm
    rw [e1, e2]
    exact ⟨h1.app (tupC_fit (i + 2) (by omega)), h2.app (tupD_fit (i + 2) (by omega))⟩

theorem ansB_fit : Fit E ansB [.s 3, .s 4, .s 7, .s 1, .s 6] := ⟨(ct_fit 8 (by omega)).1, (ct_fit 8 (by omega)).2, trivial, trivial, trivial, trivial⟩
theorem ansB_sct : 1 + ansB.sct ≤ 4294967296 := by decide

end Go.Proofs.Ytkjbkmhmghmodaa
