import Derived.Test.YtkjbkmhmghmodaaBh
namespace Go.Proofs.Ytkjbkmhmghmodaa
open Go.RowKit Go.Joins

/-- A row that is made at once. -/
theorem Hp.build {P : Nat → Prop} {L : List Item} {A : World} {X : Fo} (h : Hp P (.fo X :: L) A) (e : TypeId) (sz n : Nat) (hP : ∀ c, P c → c < A.heap.size) (hl : X.vals.length = n * sz) (hn : n ≤ maxLen) :
    Hp P (.row e sz (.slice (some ⟨A.heap.size, 0, none⟩) n n) n X :: L) (A.alloc (.cells X.vals.toArray e)) := by
  have k : Kept (fun _ => True) A (A.alloc (.cells X.vals.toArray e)) := Kept.alloc _ _ _
  have h1 := h.keep k
  have hx := h1.ok _ List.mem_cons_self
  have hfr : A.heap.size ∉ X.inn ++ bls L := fun hc => by
    have := h.lt (c := A.heap.size) (by rw [bls_cons]; exact hc)
    omega
  refine ⟨fun i hi => ?_, ?_, fun c hc => ?_⟩
  · rcases List.mem_cons.1 hi with rfl | hi
    · refine ⟨⟨hl, .inr ⟨A.heap.size, n, X.vals.toArray, rfl, Nat.zero_le _, heap_new _ _, Nat.le_refl _, hn, by simpa using hl, by simp [← hl]⟩⟩, hx.1, hx.2⟩
    · exact h1.ok i (List.mem_cons_of_mem _ hi)
  · rw [bls_cons]
    simp only [Item.bl, List.append_assoc]
    have e1 : ob (.slice (some ⟨A.heap.size, 0, none⟩) n n) = [A.heap.size] := rfl
    rw [e1, List.singleton_append, List.nodup_cons]
    exact ⟨hfr, h.nd⟩
  · rw [bls_cons] at hc
    simp only [Item.bl, List.append_assoc] at hc
    have e1 : ob (.slice (some ⟨A.heap.size, 0, none⟩) n n) = [A.heap.size] := rfl
    rw [e1, List.singleton_append] at hc
    rcases List.mem_cons.1 hc with rfl | hc
    · intro hp
      have := hP _ hp
      omega
    · exact h.fr c hc

/-- What was guarded comes back. -/
theorem Hp.join {P Q : Nat → Prop} {L : List Item} {A : World} {i : Item} (h : Hp Q L A) (hi : i.ok A) (hn : i.bl.Nodup) (hq : ∀ c ∈ i.bl, Q c) (hp : ∀ c ∈ i.bl, ¬ P c) (hPQ : ∀ c, P c → Q c) : Hp P (i :: L) A := by
  refine ⟨fun j hj => by rcases List.mem_cons.1 hj with rfl | hj; exact hi; exact h.ok j hj, ?_, fun c hc => ?_⟩
  · rw [bls_cons, List.nodup_append]
    exact ⟨hn, h.nd, fun a ha b hb e => h.fr b hb (by rw [← e]; exact hq a ha)⟩
  · rw [bls_cons] at hc
    rcases List.mem_append.1 hc with hc | hc
    · exact hp c hc
    · exact fun hx => h.fr c hc (hPQ c hx)

set_option maxRecDepth 100000 in
theorem m_gen (k : Int) (V : World) : Calls Try.prog 31 #[.int .i64 k] V fun e V' => e = .returned (.agg #[.int .i64 2, .int .i64 k, .string ⟨#[]⟩, .slice none 0 0]) ∧ Below V.heap.size V V' := by
  have HB := hide (below_alloc1 V (.cells #[.int .i64 2, .int .i64 k, .string ⟨#[]⟩, .slice none 0 0] 66))
  have HQ := hide (Bx.new V [.int .i64 2, .int .i64 k, .string ⟨#[]⟩, .slice none 0 0] 66)
  go_enter Try.func31, Try.ntmps31
  go_wp2_with fail
  refine bodyPost_ret (v := .agg #[.int .i64 2, .int .i64 k, .string ⟨#[]⟩, .slice none 0 0]) (by simp [results, Try.results31, go_sem]) rfl ⟨rfl, HB.out⟩

set_option maxHeartbeats 1000000 in
set_option maxRecDepth 100000 in
theorem m_l8con (nm : ByteArray) (b : Nat) (V : World) (hb : Bx V b (gen1 0).vals) : Calls Try.prog 80 #[.string nm, .slice (some ⟨b, 0, none⟩) 1 1] V fun e V' => ∃ a c, e = .returned (.agg #[.int .i64 3, .int .i64 0, .string nm, .slice a 1 c]) ∧ Below V.heap.size V V' ∧ Own V.heap.size V' (.s a 1 c (gen1 0) .nil) := by
  obtain ⟨V1, hV1⟩ : ∃ V1, V.alloc (.cells #[.int .i64 0, .int .i64 0, .string ⟨#[]⟩, .slice none 0 0] 66) = V1 := ⟨_, rfl⟩
  obtain ⟨V2, hV2⟩ : ∃ V2, V1.alloc (.cells #[] 66) = V2 := ⟨_, rfl⟩
  have k1 : Kept (fun _ => True) V V1 := by rw [← hV1]; exact Kept.alloc _ _ _
  have k2 : Kept (fun _ => True) V1 V2 := by rw [← hV2]; exact Kept.alloc _ _ _
  have z1 : V1.heap.size = V.heap.size + 1 := by rw [← hV1]; simp
  have z2 : V2.heap.size = V.heap.size + 1 + 1 := by rw [← hV2, World.size_alloc, z1]
  have q1 : Bx V2 V.heap.size [.int .i64 0, .int .i64 0, .string ⟨#[]⟩, .slice none 0 0] := by
    have := Bx.new V [.int .i64 0, .int .i64 0, .string ⟨#[]⟩, .slice none 0 0] 66
    rw [hV1] at this
    exact this.kept k2 trivial
  have HB := hide (hb.kept (k1.trans k2) trivial)
  have HOWN : Hid (V2.ownsRow (V.heap.size + 1) 66 4 (.slice (some ⟨V.heap.size + 1, 0, none⟩) 0 0) 0 []) := by
    refine ⟨rfl, .inr ⟨V.heap.size + 1, 0, #[], rfl, Nat.le_refl _, ?_, Nat.le_refl _, Nat.zero_le _, rfl, rfl⟩⟩
    rw [← hV2]
    have := heap_new V1 (.cells #[] 66)
    rwa [z1] at this
  have HCK : Hid (0 < 1 → ∃ b' o, (some ⟨b, 0, none⟩ : Option Addr) = some ⟨b', o, none⟩ ∧ Cel V2 (gen1 0).vals b' o) := fun _ => ⟨b, 0, rfl, HB.out.cel_cells⟩
  have HV : Hid ((V.alloc (.cells #[.int .i64 0, .int .i64 0, .string ⟨#[]⟩, .slice none 0 0] 66)).alloc (.cells #[] 66) = V2) := by unfold Hid; rw [hV1, hV2]
  have H63 : Hid (0 + 1 ≤ maxLen ∧ (0 + 1) * 56 ≤ 140737488355328) := ⟨by unfold maxLen; omega, by omega⟩
  have HX : Hid (∀ v' w3, w3.ownsRow (V.heap.size + 1) 66 4 v' (0 + 1) ([] ++ (gen1 0).vals) → V2.grownBy w3 (some (V.heap.size + 1)) → Bx w3 V.heap.size [.int .i64 0, .int .i64 0, .string ⟨#[]⟩, .slice none 0 0] ∧ ∃ a c, v' = .slice a 1 c ∧ ∀ W, Kept (fun c => c ≠ V.heap.size) w3 W → Below V.heap.size V W ∧ Own V.heap.size W (.s a 1 c (gen1 0) .nil)) := fun v' w3 hO hG => by
    have k3 : Kept (fun c => c ≠ V.heap.size + 1) V2 w3 := Kept.grown hG (fun k e h => h (by simpa using e.symm))
    rw [List.nil_append] at hO
    obtain ⟨a, c, rfl, ho⟩ := own_slice hO (fun _ _ => gen1_subs 0 _ _) (fun g _ => ⟨by show (g :: []).Nodup; simp, fun c hc => absurd hc (by show c ∉ []; simp)⟩)
    refine ⟨q1.kept k3 (by omega), a, c, rfl, fun W kW => ⟨?_, ?_⟩⟩
    · exact Below.kept (Below.kept ((k1.trans k2).below (fun _ _ => trivial) (Nat.le_refl _)) k3 (fun c hc => by omega) (Nat.le_refl _)) kW (fun c hc => by omega) (Nat.le_refl _)
    · exact (ho.kept kW (fun c hc _ => by omega)).mono (by omega)
  have HZ : Hid (V.heap.size + 1 ≤ V2.heap.size) := by unfold Hid; omega
  clear hV1 hV2 k1 k2 z1 z2 q1 hb
  go_enter Try.func80, Try.ntmps80
  go_wp2_with (at_builtin; rw [HV.out]; refine ur_step rfl _ _ 41 66 rfl Try.info66 Try.underlying41 rfl (by decide) (V.heap.size + 1) V2 (.slice (some ⟨V.heap.size + 1, 0, none⟩) 0 0) 0 [] (gen1 0).vals (some ⟨b, 0, none⟩) 1 1 rfl rfl HZ.out HOWN.out HCK.out rfl (by simp [gen1, Fo.vals, Value.oneCell']) H63.out.1 H63.out.2 ?_; rintro v' w3 hO3 hG3; obtain ⟨q3, a3, c3, rfl, x3⟩ := HX.out v' w3 hO3 hG3; have m0 := q3.cel 0 _ rfl; have m1 := q3.cel 1 _ rfl; have m2 := q3.cel 2 _ rfl; have m3 := q3.cel 3 _ rfl; have l0 := q3.live 0; have l1 := q3.live 1; have l2 := q3.live 2; have l3 := q3.live 3; have HX3 := hide x3; clear hO3 hG3 q3 x3)
  refine bodyPost_ret (v := .agg #[.int .i64 3, .int .i64 0, .string nm, .slice a3 1 c3]) (by simp [results, Try.results80, go_sem, m0, m1, m2, m3]) rfl ⟨a3, c3, rfl, HX3.out _ ?_⟩
  repeat first | (with_reducible refine Kept.set ?_ (by simp)) | with_reducible exact Kept.refl _ _

set_option maxHeartbeats 1000000 in
set_option maxRecDepth 100000 in
theorem m_list (V : World) : Calls Try.prog 32 #[.agg #[.int .i64 2, .int .i64 0, .string ⟨#[]⟩, .slice none 0 0]] V fun e V' => ∃ a c, e = .returned (.agg #[.int .i64 3, .int .i64 0, .string sList, .slice a 1 c]) ∧ Below V.heap.size V V' ∧ Own V.heap.size V' (.s a 1 c (gen1 0) .nil) := by
  obtain ⟨V1, hV1⟩ : ∃ V1, V.alloc (.cells #[.int .i64 2, .int .i64 0, .string ⟨#[]⟩, .slice none 0 0] 66) = V1 := ⟨_, rfl⟩
  obtain ⟨V2, hV2⟩ : ∃ V2, V1.alloc (.cells #[.int .i64 0, .int .i64 0, .string ⟨#[]⟩, .slice none 0 0] 66) = V2 := ⟨_, rfl⟩
  obtain ⟨V3, hV3⟩ : ∃ V3, V2.alloc (.cells #[.int .i64 2, .int .i64 0, .string ⟨#[]⟩, .slice none 0 0] 66) = V3 := ⟨_, rfl⟩
  have k1 : Kept (fun _ => True) V V1 := by rw [← hV1]; exact Kept.alloc _ _ _
  have k2 : Kept (fun _ => True) V1 V2 := by rw [← hV2]; exact Kept.alloc _ _ _
  have k3 : Kept (fun _ => True) V2 V3 := by rw [← hV3]; exact Kept.alloc _ _ _
  have z1 : V1.heap.size = V.heap.size + 1 := by rw [← hV1]; simp
  have z2 : V2.heap.size = V.heap.size + 1 + 1 := by rw [← hV2, World.size_alloc, z1]
  have z3 : V3.heap.size = V.heap.size + 1 + 1 + 1 := by rw [← hV3, World.size_alloc, z2]
  have q2 : Bx V3 (V.heap.size + 1) [.int .i64 0, .int .i64 0, .string ⟨#[]⟩, .slice none 0 0] := by
    have := Bx.new V1 [.int .i64 0, .int .i64 0, .string ⟨#[]⟩, .slice none 0 0] 66
    rw [hV2, z1] at this
    exact this.kept k3 trivial
  have q3 : Bx V3 (V.heap.size + 1 + 1) (gen1 0).vals := by
    have := Bx.new V2 (gen1 0).vals 66
    rw [z2] at this
    have e : V2.alloc (.cells (gen1 0).vals.toArray 66) = V3 := hV3
    rw [e] at this
    exact this
  have HC := hide (m_l8con sList (V.heap.size + 1 + 1) V3 q3)
  have HV : Hid (((V.alloc (.cells #[.int .i64 2, .int .i64 0, .string ⟨#[]⟩, .slice none 0 0] 66)).alloc (.cells #[.int .i64 0, .int .i64 0, .string ⟨#[]⟩, .slice none 0 0] 66)).alloc (.cells #[.int .i64 2, .int .i64 0, .string ⟨#[]⟩, .slice none 0 0] 66) = V3) := by unfold Hid; rw [hV1, hV2, hV3]
  have HQ2 := hide q2
  have HB := hide (Kept.below ((k1.trans k2).trans k3) (n := V.heap.size) (fun _ _ => trivial) (Nat.le_refl _))
  have HZ := hide z3
  clear hV1 hV2 hV3 k1 k2 k3 z1 z2 z3 q2 q3
  go_enter Try.func32, Try.ntmps32
  go_wp2_with fail
  rw [HV.out]
  clear HV
  refine HC.out.mono ?_
  rintro e w1 ⟨a, c, rfl, b1, o1⟩
  have q := HQ2.out.below b1
  have m0 := q.cel 0 _ rfl
  have m1 := q.cel 1 _ rfl
  have m2 := q.cel 2 _ rfl
  have m3 := q.cel 3 _ rfl
  have l0 := q.live 0
  have l1 := q.live 1
  have l2 := q.live 2
  have l3 := q.live 3
  have HF : Hid (∀ W, Kept (fun c => c ≠ V.heap.size + 1) w1 W → Below V.heap.size V W ∧ Own V.heap.size W (.s a 1 c (gen1 0) .nil)) := fun W kW => by
    have hz := HZ.out
    have hb := HB.out
    exact ⟨Below.kept (hb.trans (b1.mono (by omega))) kW (fun c hc => by omega) (Nat.le_refl _), (o1.kept kW (fun c hc _ => by omega)).mono (by omega)⟩
  clear HC b1 o1 q
  go_wp2_with fail
  refine bodyPost_ret (v := .agg #[.int .i64 3, .int .i64 0, .string sList, .slice a 1 c]) (by simp [results, Try.results32, go_sem, m0, m1, m2, m3, sList]) rfl ⟨a, c, rfl, HF.out _ ?_⟩
  repeat first | (with_reducible refine Kept.set ?_ (by simp)) | with_reducible exact Kept.refl _ _

end Go.Proofs.Ytkjbkmhmghmodaa
