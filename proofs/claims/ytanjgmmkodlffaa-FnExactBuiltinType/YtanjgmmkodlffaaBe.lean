import Derived.Test.YtanjgmmkodlffaaBd
namespace Go.Proofs.Ytanjgmmkodlffaa.U
open Go.RowKit Go.Joins

theorem own_base {lo : Nat} {V : World} {k ix : Int} {nm : ByteArray} : Own lo V (ty4 k ix nm none 0 0 .nil) := ⟨subN, by simp [ty4, Fo.inn, blk], fun c hc => by simp [ty4, Fo.inn, blk] at hc⟩

theorem own_ty {lo : Nat} {V : World} {k ix : Int} {nm : ByteArray} {a : Option Addr} {n c : Nat} {K : Fo} (h : Own lo V (.s a n c K .nil)) : Own lo V (ty4 k ix nm a n c K) := Own.v _ (Own.v _ (Own.v _ h))

theorem own_s {lo : Nat} {V : World} {g n : Nat} {K : Fo} (hg : lo ≤ g) (hx : Bx V g K.vals) (hK : Own lo V K) (hn : g ∉ K.inn) (hc : n ≤ maxLen) : Own lo V (.s (some ⟨g, 0, none⟩) n n K .nil) := by
  refine ⟨⟨⟨Nat.le_refl _, hc, fun _ => ⟨g, 0, rfl, ⟨hg, hx.lt⟩, hx.cel_cells, hK.subs⟩⟩, trivial⟩, ?_, fun c hc j => ?_⟩
  · simp only [Fo.inn, List.append_nil]
    cases hl : K.len with
    | zero => simpa [blk] using hK.nodup
    | succ m => simpa [blk] using ⟨hn, hK.nodup⟩
  · simp only [Fo.inn, List.append_nil, List.mem_append] at hc
    rcases hc with hc | hc
    · cases hl : K.len with
      | zero => simp [hl, blk] at hc
      | succ m =>
        have e : c = g := by simpa [hl, blk] using hc
        subst e
        exact hx.live j
    · exact hK.live c hc j

theorem own_app2 {lo : Nat} {V : World} {A B : Fo} (hA : Own lo V A) (hB : Own lo V B) (hd : ∀ c ∈ A.inn, c ∉ B.inn) : Own lo V (A.app B) := by
  refine ⟨hA.subs.app hB.subs, ?_, fun c hc j => ?_⟩
  · rw [Fo.inn_app, List.nodup_append]
    exact ⟨hA.nodup, hB.nodup, fun a ha b hb e => hd a ha (e ▸ hb)⟩
  · rw [Fo.inn_app, List.mem_append] at hc
    rcases hc with hc | hc
    · exact hA.live c hc j
    · exact hB.live c hc j

theorem fin9 {V wN : World} {X : Fo} (kp : Kept (fun _ => True) V wN) (ho : Own (V.heap.size + 1) wN X) (cnt : Int) : ∀ W, Kept (fun c => c ≠ V.heap.size) wN W → Below V.heap.size V W ∧ Own V.heap.size W (sch cnt X) := fun W kW => by
  refine ⟨Below.kept (kp.below (fun _ _ => trivial) (Nat.le_refl _)) kW (fun c hc => by omega) (Nat.le_refl _), ?_⟩
  have h1 : Own V.heap.size W X := (ho.kept kW (fun c hc _ => by omega)).mono (by omega)
  exact ⟨⟨⟨Nat.le_refl _, Nat.zero_le _, fun hl => by simp [Fo.len] at hl⟩, h1.subs⟩, by simpa [sch, Fo.inn, blk] using h1.nodup, fun c hc j => h1.live c (by simpa [sch, Fo.inn, blk] using hc) j⟩

theorem i_named' (nm : ByteArray) (a : Option Addr) (n c : Nat) (V : World) : Calls Try.prog 25 #[.string nm, .slice a n c] V fun e V' => ∃ v, e = .returned v ∧ (v = .agg #[.int .i64 3, .int .i64 0, .string nm, .slice a n c] ∧ Below V.heap.size V V') := (i_named nm a n c V).mono (fun _ _ h => ⟨_, h.1, rfl, h.2⟩)

set_option maxHeartbeats 1000000 in
set_option maxRecDepth 100000 in
theorem i_lst (pb : Nat) (V : World) (hc : Bx V pb [.int .i64 2, .int .i64 0, .string ⟨#[]⟩, .slice none 0 0]) : Calls Try.prog 27 #[.pointer (some ⟨pb, 0, none⟩)] V fun e V' => ∃ g, e = .returned (.agg #[.int .i64 3, .int .i64 0, .string sList, .slice (some ⟨g, 0, none⟩) 1 1]) ∧ Below V.heap.size V V' ∧ V.heap.size ≤ g ∧ Bx V' g [.int .i64 2, .int .i64 0, .string ⟨#[]⟩, .slice none 0 0] := by
  obtain ⟨V0, hV0⟩ : ∃ W, V.alloc (.cells #[.int .i64 0, .int .i64 0, .string ⟨#[]⟩, .slice none 0 0] 25) = W := ⟨_, rfl⟩
  have k0 : Kept (fun _ => True) V V0 := by rw [← hV0]; exact Kept.alloc _ _ _
  have q0 : Bx V0 V.heap.size [.int .i64 0, .int .i64 0, .string ⟨#[]⟩, .slice none 0 0] := by rw [← hV0]; exact Bx.new _ _ _
  have z0 : V0.heap.size = V.heap.size + 1 := by rw [← hV0]; simp
  have q := hc.kept k0 trivial
  have d0 := q.cel 0 _ rfl
  have d1 := q.cel 1 _ rfl
  have d2 := q.cel 2 _ rfl
  have d3 := q.cel 3 _ rfl
  have HK := hide k0
  have HQ := hide q0
  have HZ := hide z0
  have HV0 := hide hV0
  clear hV0 k0 q0 z0 q hc
  go_enter Try.func27, Try.ntmps27
  go_upto_region 1 with fail
  rw [HV0.out]
  clear HV0
  go_wp2_with fail
  refine (i_named sList (some ⟨V0.heap.size, 0, none⟩) 1 1 _).mono ?_
  rintro e w1 ⟨rfl, b1⟩
  have q := (HQ.out.kept (Kept.alloc (fun _ => True) _ _) trivial).below b1
  have m0 := q.cel 0 _ rfl
  have m1 := q.cel 1 _ rfl
  have m2 := q.cel 2 _ rfl
  have m3 := q.cel 3 _ rfl
  have l0 := q.live 0
  have l1 := q.live 1
  have l2 := q.live 2
  have l3 := q.live 3
  have HF : Hid (∀ W, Kept (fun c => c ≠ V.heap.size) w1 W → Below V.heap.size V W ∧ V.heap.size ≤ V0.heap.size ∧ Bx W V0.heap.size [.int .i64 2, .int .i64 0, .string ⟨#[]⟩, .slice none 0 0]) := fun W kW => by
    have hz := HZ.out
    have kk : Kept (fun _ => True) V w1 := (HK.out.trans (Kept.alloc _ _ _)).trans (kt b1)
    exact ⟨Below.kept (kk.below (fun _ _ => trivial) (Nat.le_refl _)) kW (fun c hc => by omega) (Nat.le_refl _), by omega, ((Bx.new V0 [.int .i64 2, .int .i64 0, .string ⟨#[]⟩, .slice none 0 0] 25).below b1).kept kW (by omega)⟩
  clear b1 q
  go_wp2_with fail
  refine bodyPost_ret (v := .agg #[.int .i64 3, .int .i64 0, .string sList, .slice (some ⟨V0.heap.size, 0, none⟩) 1 1]) (by simp [results, Try.results27, go_sem, m0, m1, m2, m3]) rfl ⟨V0.heap.size, rfl, HF.out _ ?_⟩
  repeat first | (with_reducible refine Kept.set ?_ (by simp)) | with_reducible exact Kept.refl _ _

theorem i_fun2' (k ix : Int) (nm : ByteArray) (a : Option Addr) (n c : Nat) (k' ix' : Int) (nm' : ByteArray) (a' : Option Addr) (n' c' : Nat) (k2 ix2 : Int) (nm2 : ByteArray) (a2 : Option Addr) (n2 c2 : Nat) (b o : Nat) (V : World) (hb : b < V.heap.size) (hc : Cel V [.int .i64 k', .int .i64 ix', .string nm', .slice a' n' c', .int .i64 k2, .int .i64 ix2, .string nm2, .slice a2 n2 c2] b o) :
    Calls Try.prog 26 #[.agg #[.int .i64 k, .int .i64 ix, .string nm, .slice a n c], .slice (some ⟨b, o, none⟩) 2 2] V fun e V' => ∃ v, e = .returned v ∧ (∃ g, v = .agg #[.int .i64 3, .int .i64 0, .string sArrow, .slice (some ⟨g, 0, none⟩) 2 2] ∧ Below V.heap.size V V' ∧ ∃ g', V.heap.size ≤ g' ∧ g' < g ∧ Bx V' g [.int .i64 k, .int .i64 ix, .string nm, .slice a n c, .int .i64 3, .int .i64 0, .string sArrow, .slice (some ⟨g', 0, none⟩) 2 2] ∧ Bx V' g' [.int .i64 k', .int .i64 ix', .string nm', .slice a' n' c', .int .i64 k2, .int .i64 ix2, .string nm2, .slice a2 n2 c2]) :=
  (i_fun2 k ix nm a n c k' ix' nm' a' n' c' k2 ix2 nm2 a2 n2 c2 b o V hb hc).mono (fun _ _ h => by
    obtain ⟨g, h1, h2⟩ := h
    exact ⟨_, h1, g, rfl, h2⟩)

theorem i_fun1' (k ix : Int) (nm : ByteArray) (a : Option Addr) (n c : Nat) (k' ix' : Int) (nm' : ByteArray) (a' : Option Addr) (n' c' : Nat) (b o : Nat) (V : World) (hb : b < V.heap.size) (hc : Cel V [.int .i64 k', .int .i64 ix', .string nm', .slice a' n' c'] b o) :
    Calls Try.prog 26 #[.agg #[.int .i64 k, .int .i64 ix, .string nm, .slice a n c], .slice (some ⟨b, o, none⟩) 1 1] V fun e V' => ∃ v, e = .returned v ∧ (∃ g, v = .agg #[.int .i64 3, .int .i64 0, .string sArrow, .slice (some ⟨g, 0, none⟩) 2 2] ∧ Below V.heap.size V V' ∧ V.heap.size ≤ g ∧ Bx V' g [.int .i64 k, .int .i64 ix, .string nm, .slice a n c, .int .i64 k', .int .i64 ix', .string nm', .slice a' n' c']) :=
  (i_fun1 k ix nm a n c k' ix' nm' a' n' c' b o V hb hc).mono (fun _ _ h => by
    obtain ⟨g, h1, h2⟩ := h
    exact ⟨_, h1, g, rfl, h2⟩)

theorem bx1 (A : World) (L : List Value) {n : Nat} (h : A.heap.size = n) : Bx (A.alloc (.cells L.toArray 25)).drew n L := by
  subst h
  exact (Bx.new A L 25).kept (Kept.drew (fun _ => True) _) trivial

set_option maxHeartbeats 16000000 in
set_option maxRecDepth 100000 in
theorem i_bt (s : ByteArray) (AN : Fo) (hBT : BT s AN) (V : World) : Calls Try.prog 7 #[.string s] V fun e V' => ∃ R : Fo, e = .returned (.agg R.vals.toArray) ∧ R.sim AN ∧ Below V.heap.size V V' ∧ Own V.heap.size V' R := by
  obtain ⟨V0, hV0⟩ : ∃ W, V.alloc (.cells #[.int .i64 0, .slice none 0 0, .int .i64 0, .int .i64 0, .string ⟨#[]⟩, .slice none 0 0] 27) = W := ⟨_, rfl⟩
  have k0 : Kept (fun _ => True) V V0 := by rw [← hV0]; exact Kept.alloc _ _ _
  have q2 : Bx V0 V.heap.size [.int .i64 0, .slice none 0 0, .int .i64 0, .int .i64 0, .string ⟨#[]⟩, .slice none 0 0] := by rw [← hV0]; exact Bx.new _ _ _
  have z0 : V0.heap.size = V.heap.size + 1 := by rw [← hV0]; simp
  have HK0 := hide k0
  have HQ2' := hide q2
  have HZ0 := hide z0
  have HV0 := hide hV0
  clear hV0 k0 q2 z0
  go_enter Try.func7, Try.ntmps7
  go_upto_region 1 with fail
  rw [HV0.out]
  clear HV0
  go_wp2_with fail
  refine (i_named sInt none 0 0 V0).mono ?_
  rintro e w1 ⟨rfl, bb1⟩
  have HB1 := hide bb1
  clear bb1
  go_wp2_with fail
  refine (i_named sChar none 0 0 w1).mono ?_
  rintro e w2 ⟨rfl, bb2⟩
  obtain ⟨VP, hVP⟩ : ∃ W, (((w2.alloc (.cells #[.int .i64 3, .int .i64 0, .string sInt, .slice none 0 0] 25)).alloc (.cells #[.int .i64 3, .int .i64 0, .string sChar, .slice none 0 0] 25)).alloc (.cells #[.int .i64 2, .int .i64 0, .string ⟨#[]⟩, .slice none 0 0] 25)).alloc (.cells #[.int .i64 2, .int .i64 1, .string ⟨#[]⟩, .slice none 0 0] 25) = W := ⟨_, rfl⟩
  have k2 : Kept (fun _ => True) V0 w2 := (kt HB1.out).trans (kt bb2)
  have kP : Kept (fun _ => True) w2 VP := by rw [← hVP]; exact (((Kept.alloc _ _ _).trans (Kept.alloc _ _ _)).trans (Kept.alloc _ _ _)).trans (Kept.alloc _ _ _)
  have HKP : Hid (Kept (fun _ => True) V VP) := (HK0.out.trans k2).trans kP
  have HQ2 := hide ((HQ2'.out.kept k2 trivial).kept kP trivial)
  have HZP : Hid (V.heap.size < w2.heap.size ∧ w2.heap.size + 4 = VP.heap.size) := by
    have h0 := HZ0.out
    have h1 := k2.size
    have h2 : VP.heap.size = w2.heap.size + 1 + 1 + 1 + 1 := by rw [← hVP]; simp
    exact ⟨by omega, by omega⟩
  have HQI : Hid (Bx VP w2.heap.size [.int .i64 3, .int .i64 0, .string sInt, .slice none 0 0]) := by
    unfold Hid; rw [← hVP]
    exact (((Bx.new w2 [.int .i64 3, .int .i64 0, .string sInt, .slice none 0 0] 25).kept (Kept.alloc (fun _ => True) _ _) trivial).kept (Kept.alloc (fun _ => True) _ _) trivial).kept (Kept.alloc (fun _ => True) _ _) trivial
  have HQC : Hid (Bx VP (w2.heap.size + 1) [.int .i64 3, .int .i64 0, .string sChar, .slice none 0 0]) := by
    unfold Hid; rw [← hVP]
    have := ((Bx.new (w2.alloc (.cells #[.int .i64 3, .int .i64 0, .string sInt, .slice none 0 0] 25)) [.int .i64 3, .int .i64 0, .string sChar, .slice none 0 0] 25).kept (Kept.alloc (fun _ => True) _ (.cells #[.int .i64 2, .int .i64 0, .string ⟨#[]⟩, .slice none 0 0] 25)) trivial).kept (Kept.alloc (fun _ => True) _ (.cells #[.int .i64 2, .int .i64 1, .string ⟨#[]⟩, .slice none 0 0] 25)) trivial
    rwa [World.size_alloc] at this
  have HQG : Hid (Bx VP (w2.heap.size + 1 + 1) [.int .i64 2, .int .i64 0, .string ⟨#[]⟩, .slice none 0 0]) := by
    unfold Hid; rw [← hVP]
    have := (Bx.new ((w2.alloc (.cells #[.int .i64 3, .int .i64 0, .string sInt, .slice none 0 0] 25)).alloc (.cells #[.int .i64 3, .int .i64 0, .string sChar, .slice none 0 0] 25)) [.int .i64 2, .int .i64 0, .string ⟨#[]⟩, .slice none 0 0] 25).kept (Kept.alloc (fun _ => True) _ (.cells #[.int .i64 2, .int .i64 1, .string ⟨#[]⟩, .slice none 0 0] 25)) trivial
    rwa [World.size_alloc, World.size_alloc] at this
  have HQH : Hid (Bx VP (w2.heap.size + 1 + 1 + 1) [.int .i64 2, .int .i64 1, .string ⟨#[]⟩, .slice none 0 0]) := by
    unfold Hid; rw [← hVP]
    have := Bx.new (((w2.alloc (.cells #[.int .i64 3, .int .i64 0, .string sInt, .slice none 0 0] 25)).alloc (.cells #[.int .i64 3, .int .i64 0, .string sChar, .slice none 0 0] 25)).alloc (.cells #[.int .i64 2, .int .i64 0, .string ⟨#[]⟩, .slice none 0 0] 25)) [.int .i64 2, .int .i64 1, .string ⟨#[]⟩, .slice none 0 0] 25
    rwa [World.size_alloc, World.size_alloc, World.size_alloc] at this
  have HVP := hide hVP
  clear hVP k2 kP bb2 HB1 HK0 HQ2' HZ0
  go_upto_region 3 with fail
  rw [HVP.out]
  clear HVP
  unfold BT at hBT
  rcases hBT with ⟨hs, rfl⟩ | ⟨hs, rfl⟩ | ⟨hs, rfl⟩ | ⟨hs, rfl⟩ | ⟨hs, rfl⟩ | ⟨hs, rfl⟩ | ⟨hs, rfl⟩ | ⟨hs, rfl⟩ | ⟨hs, rfl⟩ | ⟨hs, rfl⟩ | ⟨hs, rfl⟩ | ⟨hs, rfl⟩ | ⟨hs, rfl⟩ | ⟨hs, rfl⟩ | ⟨hs, rfl⟩
  · subst hs
    have kI := HQI.out
    have kI0 := kI.cel 0 _ rfl
    have kI1 := kI.cel 1 _ rfl
    have kI2 := kI.cel 2 _ rfl
    have kI3 := kI.cel 3 _ rfl
    clear kI
    have HBl := hide (Bx.new VP [.int .i64 3, .int .i64 0, .string sInt, .slice none 0 0, .int .i64 3, .int .i64 0, .string sInt, .slice none 0 0] 25)
    go_wp2_with fail
    refine (i_fun2 3 0 sInt none 0 0 3 0 sInt none 0 0 3 0 sInt none 0 0 VP.heap.size 0 _ HBl.out.lt HBl.out.cel_cells).mono ?_
    rintro e v1 ⟨g, rfl, bb, g', hg1, hg2, x1, x2⟩
    have HK : Hid (Kept (fun _ => True) VP v1) := (Kept.alloc _ _ _).trans (kt bb)
    rw [World.size_alloc] at hg1
    clear bb
    have hzp := HZP.out
    have HF := hide (fin9 (X := (ty4 3 0 sArrow (some ⟨g, 0, none⟩) 2 2 ((ty4 3 0 sInt none 0 0 .nil).app (ty4 3 0 sArrow (some ⟨g', 0, none⟩) 2 2 ((ty4 3 0 sInt none 0 0 .nil).app (ty4 3 0 sInt none 0 0 .nil)))))) (HKP.out.trans HK.out) (own_ty (own_s (by omega) x1 (own_app2 own_base (own_ty (own_s (by omega) x2 (own_app2 own_base own_base (fun c hc => absurd hc List.not_mem_nil)) List.not_mem_nil (by unfold maxLen; omega))) (fun c hc => absurd hc List.not_mem_nil)) (by show g ∉ ([g'] : List Nat); simp only [List.mem_cons, List.not_mem_nil, or_false]; omega) (by unfold maxLen; omega))) 0)
    have q2 := HQ2.out.kept HK.out trivial
    have r0 := q2.cel 0 _ rfl
    have f0 := q2.live 0
    have r1 := q2.cel 1 _ rfl
    have f1 := q2.live 1
    have r2 := q2.cel 2 _ rfl
    have f2 := q2.live 2
    have r3 := q2.cel 3 _ rfl
    have f3 := q2.live 3
    have r4 := q2.cel 4 _ rfl
    have f4 := q2.live 4
    have r5 := q2.cel 5 _ rfl
    have f5 := q2.live 5
    clear q2
    clear hzp
    go_wp2_with fail
    refine bodyPost_ret (v := .agg #[.int .i64 0, .slice none 0 0, .int .i64 3, .int .i64 0, .string sArrow, .slice (some ⟨g, 0, none⟩) 2 2]) (by simp [results, Try.results7, go_sem, r0, r1, r2, r3, r4, r5]) rfl ⟨sch 0 (ty4 3 0 sArrow (some ⟨g, 0, none⟩) 2 2 ((ty4 3 0 sInt none 0 0 .nil).app (ty4 3 0 sArrow (some ⟨g', 0, none⟩) 2 2 ((ty4 3 0 sInt none 0 0 .nil).app (ty4 3 0 sInt none 0 0 .nil))))), rfl, ⟨rfl, rfl, trivial, (fun_sim2 base_sim (fun_sim2 base_sim base_sim _ _) _ _)⟩, HF.out _ ?_⟩
    repeat first | (with_reducible refine Kept.set ?_ (by simp)) | with_reducible exact Kept.refl _ _
  · subst hs
    have kI := HQI.out
    have kI0 := kI.cel 0 _ rfl
    have kI1 := kI.cel 1 _ rfl
    have kI2 := kI.cel 2 _ rfl
    have kI3 := kI.cel 3 _ rfl
    clear kI
    have HBl := hide (Bx.new VP [.int .i64 3, .int .i64 0, .string sInt, .slice none 0 0, .int .i64 3, .int .i64 0, .string sInt, .slice none 0 0] 25)
    go_wp2_with fail
    refine (i_fun2 3 0 sInt none 0 0 3 0 sInt none 0 0 3 0 sInt none 0 0 VP.heap.size 0 _ HBl.out.lt HBl.out.cel_cells).mono ?_
    rintro e v1 ⟨g, rfl, bb, g', hg1, hg2, x1, x2⟩
    have HK : Hid (Kept (fun _ => True) VP v1) := (Kept.alloc _ _ _).trans (kt bb)
    rw [World.size_alloc] at hg1
    clear bb
    have hzp := HZP.out
    have HF := hide (fin9 (X := (ty4 3 0 sArrow (some ⟨g, 0, none⟩) 2 2 ((ty4 3 0 sInt none 0 0 .nil).app (ty4 3 0 sArrow (some ⟨g', 0, none⟩) 2 2 ((ty4 3 0 sInt none 0 0 .nil).app (ty4 3 0 sInt none 0 0 .nil)))))) (HKP.out.trans HK.out) (own_ty (own_s (by omega) x1 (own_app2 own_base (own_ty (own_s (by omega) x2 (own_app2 own_base own_base (fun c hc => absurd hc List.not_mem_nil)) List.not_mem_nil (by unfold maxLen; omega))) (fun c hc => absurd hc List.not_mem_nil)) (by show g ∉ ([g'] : List Nat); simp only [List.mem_cons, List.not_mem_nil, or_false]; omega) (by unfold maxLen; omega))) 0)
    have q2 := HQ2.out.kept HK.out trivial
    have r0 := q2.cel 0 _ rfl
    have f0 := q2.live 0
    have r1 := q2.cel 1 _ rfl
    have f1 := q2.live 1
    have r2 := q2.cel 2 _ rfl
    have f2 := q2.live 2
    have r3 := q2.cel 3 _ rfl
    have f3 := q2.live 3
    have r4 := q2.cel 4 _ rfl
    have f4 := q2.live 4
    have r5 := q2.cel 5 _ rfl
    have f5 := q2.live 5
    clear q2
    clear hzp
    go_wp2_with fail
    refine bodyPost_ret (v := .agg #[.int .i64 0, .slice none 0 0, .int .i64 3, .int .i64 0, .string sArrow, .slice (some ⟨g, 0, none⟩) 2 2]) (by simp [results, Try.results7, go_sem, r0, r1, r2, r3, r4, r5]) rfl ⟨sch 0 (ty4 3 0 sArrow (some ⟨g, 0, none⟩) 2 2 ((ty4 3 0 sInt none 0 0 .nil).app (ty4 3 0 sArrow (some ⟨g', 0, none⟩) 2 2 ((ty4 3 0 sInt none 0 0 .nil).app (ty4 3 0 sInt none 0 0 .nil))))), rfl, ⟨rfl, rfl, trivial, (fun_sim2 base_sim (fun_sim2 base_sim base_sim _ _) _ _)⟩, HF.out _ ?_⟩
    repeat first | (with_reducible refine Kept.set ?_ (by simp)) | with_reducible exact Kept.refl _ _
  · subst hs
    have kI := HQI.out
    have kI0 := kI.cel 0 _ rfl
    have kI1 := kI.cel 1 _ rfl
    have kI2 := kI.cel 2 _ rfl
    have kI3 := kI.cel 3 _ rfl
    clear kI
    have HBl := hide (Bx.new VP [.int .i64 3, .int .i64 0, .string sInt, .slice none 0 0, .int .i64 3, .int .i64 0, .string sInt, .slice none 0 0] 25)
    go_wp2_with fail
    refine (i_fun2 3 0 sInt none 0 0 3 0 sInt none 0 0 3 0 sInt none 0 0 VP.heap.size 0 _ HBl.out.lt HBl.out.cel_cells).mono ?_
    rintro e v1 ⟨g, rfl, bb, g', hg1, hg2, x1, x2⟩
    have HK : Hid (Kept (fun _ => True) VP v1) := (Kept.alloc _ _ _).trans (kt bb)
    rw [World.size_alloc] at hg1
    clear bb
    have hzp := HZP.out
    have HF := hide (fin9 (X := (ty4 3 0 sArrow (some ⟨g, 0, none⟩) 2 2 ((ty4 3 0 sInt none 0 0 .nil).app (ty4 3 0 sArrow (some ⟨g', 0, none⟩) 2 2 ((ty4 3 0 sInt none 0 0 .nil).app (ty4 3 0 sInt none 0 0 .nil)))))) (HKP.out.trans HK.out) (own_ty (own_s (by omega) x1 (own_app2 own_base (own_ty (own_s (by omega) x2 (own_app2 own_base own_base (fun c hc => absurd hc List.not_mem_nil)) List.not_mem_nil (by unfold maxLen; omega))) (fun c hc => absurd hc List.not_mem_nil)) (by show g ∉ ([g'] : List Nat); simp only [List.mem_cons, List.not_mem_nil, or_false]; omega) (by unfold maxLen; omega))) 0)
    have q2 := HQ2.out.kept HK.out trivial
    have r0 := q2.cel 0 _ rfl
    have f0 := q2.live 0
    have r1 := q2.cel 1 _ rfl
    have f1 := q2.live 1
    have r2 := q2.cel 2 _ rfl
    have f2 := q2.live 2
    have r3 := q2.cel 3 _ rfl
    have f3 := q2.live 3
    have r4 := q2.cel 4 _ rfl
    have f4 := q2.live 4
    have r5 := q2.cel 5 _ rfl
    have f5 := q2.live 5
    clear q2
    clear hzp
    go_wp2_with fail
    refine bodyPost_ret (v := .agg #[.int .i64 0, .slice none 0 0, .int .i64 3, .int .i64 0, .string sArrow, .slice (some ⟨g, 0, none⟩) 2 2]) (by simp [results, Try.results7, go_sem, r0, r1, r2, r3, r4, r5]) rfl ⟨sch 0 (ty4 3 0 sArrow (some ⟨g, 0, none⟩) 2 2 ((ty4 3 0 sInt none 0 0 .nil).app (ty4 3 0 sArrow (some ⟨g', 0, none⟩) 2 2 ((ty4 3 0 sInt none 0 0 .nil).app (ty4 3 0 sInt none 0 0 .nil))))), rfl, ⟨rfl, rfl, trivial, (fun_sim2 base_sim (fun_sim2 base_sim base_sim _ _) _ _)⟩, HF.out _ ?_⟩
    repeat first | (with_reducible refine Kept.set ?_ (by simp)) | with_reducible exact Kept.refl _ _
  · subst hs
    have kI := HQI.out
    have kI0 := kI.cel 0 _ rfl
    have kI1 := kI.cel 1 _ rfl
    have kI2 := kI.cel 2 _ rfl
    have kI3 := kI.cel 3 _ rfl
    clear kI
    have HBl := hide (Bx.new VP [.int .i64 3, .int .i64 0, .string sInt, .slice none 0 0, .int .i64 3, .int .i64 0, .string sInt, .slice none 0 0] 25)
    go_wp2_with fail
    refine (i_fun2 3 0 sInt none 0 0 3 0 sInt none 0 0 3 0 sInt none 0 0 VP.heap.size 0 _ HBl.out.lt HBl.out.cel_cells).mono ?_
    rintro e v1 ⟨g, rfl, bb, g', hg1, hg2, x1, x2⟩
    have HK : Hid (Kept (fun _ => True) VP v1) := (Kept.alloc _ _ _).trans (kt bb)
    rw [World.size_alloc] at hg1
    clear bb
    have hzp := HZP.out
    have HF := hide (fin9 (X := (ty4 3 0 sArrow (some ⟨g, 0, none⟩) 2 2 ((ty4 3 0 sInt none 0 0 .nil).app (ty4 3 0 sArrow (some ⟨g', 0, none⟩) 2 2 ((ty4 3 0 sInt none 0 0 .nil).app (ty4 3 0 sInt none 0 0 .nil)))))) (HKP.out.trans HK.out) (own_ty (own_s (by omega) x1 (own_app2 own_base (own_ty (own_s (by omega) x2 (own_app2 own_base own_base (fun c hc => absurd hc List.not_mem_nil)) List.not_mem_nil (by unfold maxLen; omega))) (fun c hc => absurd hc List.not_mem_nil)) (by show g ∉ ([g'] : List Nat); simp only [List.mem_cons, List.not_mem_nil, or_false]; omega) (by unfold maxLen; omega))) 0)
    have q2 := HQ2.out.kept HK.out trivial
    have r0 := q2.cel 0 _ rfl
    have f0 := q2.live 0
    have r1 := q2.cel 1 _ rfl
    have f1 := q2.live 1
    have r2 := q2.cel 2 _ rfl
    have f2 := q2.live 2
    have r3 := q2.cel 3 _ rfl
    have f3 := q2.live 3
    have r4 := q2.cel 4 _ rfl
    have f4 := q2.live 4
    have r5 := q2.cel 5 _ rfl
    have f5 := q2.live 5
    clear q2
    clear hzp
    go_wp2_with fail
    refine bodyPost_ret (v := .agg #[.int .i64 0, .slice none 0 0, .int .i64 3, .int .i64 0, .string sArrow, .slice (some ⟨g, 0, none⟩) 2 2]) (by simp [results, Try.results7, go_sem, r0, r1, r2, r3, r4, r5]) rfl ⟨sch 0 (ty4 3 0 sArrow (some ⟨g, 0, none⟩) 2 2 ((ty4 3 0 sInt none 0 0 .nil).app (ty4 3 0 sArrow (some ⟨g', 0, none⟩) 2 2 ((ty4 3 0 sInt none 0 0 .nil).app (ty4 3 0 sInt none 0 0 .nil))))), rfl, ⟨rfl, rfl, trivial, (fun_sim2 base_sim (fun_sim2 base_sim base_sim _ _) _ _)⟩, HF.out _ ?_⟩
    repeat first | (with_reducible refine Kept.set ?_ (by simp)) | with_reducible exact Kept.refl _ _
  · subst hs
    have kI := HQI.out
    have kI0 := kI.cel 0 _ rfl
    have kI1 := kI.cel 1 _ rfl
    have kI2 := kI.cel 2 _ rfl
    have kI3 := kI.cel 3 _ rfl
    clear kI
    have HBl := hide (Bx.new VP [.int .i64 3, .int .i64 0, .string sInt, .slice none 0 0, .int .i64 3, .int .i64 0, .string sInt, .slice none 0 0] 25)
    go_wp2_with fail
    refine (i_fun2 3 0 sInt none 0 0 3 0 sInt none 0 0 3 0 sInt none 0 0 VP.heap.size 0 _ HBl.out.lt HBl.out.cel_cells).mono ?_
    rintro e v1 ⟨g, rfl, bb, g', hg1, hg2, x1, x2⟩
    have HK : Hid (Kept (fun _ => True) VP v1) := (Kept.alloc _ _ _).trans (kt bb)
    rw [World.size_alloc] at hg1
    clear bb
    have hzp := HZP.out
    have HF := hide (fin9 (X := (ty4 3 0 sArrow (some ⟨g, 0, none⟩) 2 2 ((ty4 3 0 sInt none 0 0 .nil).app (ty4 3 0 sArrow (some ⟨g', 0, none⟩) 2 2 ((ty4 3 0 sInt none 0 0 .nil).app (ty4 3 0 sInt none 0 0 .nil)))))) (HKP.out.trans HK.out) (own_ty (own_s (by omega) x1 (own_app2 own_base (own_ty (own_s (by omega) x2 (own_app2 own_base own_base (fun c hc => absurd hc List.not_mem_nil)) List.not_mem_nil (by unfold maxLen; omega))) (fun c hc => absurd hc List.not_mem_nil)) (by show g ∉ ([g'] : List Nat); simp only [List.mem_cons, List.not_mem_nil, or_false]; omega) (by unfold maxLen; omega))) 0)
    have q2 := HQ2.out.kept HK.out trivial
    have r0 := q2.cel 0 _ rfl
    have f0 := q2.live 0
    have r1 := q2.cel 1 _ rfl
    have f1 := q2.live 1
    have r2 := q2.cel 2 _ rfl
    have f2 := q2.live 2
    have r3 := q2.cel 3 _ rfl
    have f3 := q2.live 3
    have r4 := q2.cel 4 _ rfl
    have f4 := q2.live 4
    have r5 := q2.cel 5 _ rfl
    have f5 := q2.live 5
    clear q2
    clear hzp
    go_wp2_with fail
    refine bodyPost_ret (v := .agg #[.int .i64 0, .slice none 0 0, .int .i64 3, .int .i64 0, .string sArrow, .slice (some ⟨g, 0, none⟩) 2 2]) (by simp [results, Try.results7, go_sem, r0, r1, r2, r3, r4, r5]) rfl ⟨sch 0 (ty4 3 0 sArrow (some ⟨g, 0, none⟩) 2 2 ((ty4 3 0 sInt none 0 0 .nil).app (ty4 3 0 sArrow (some ⟨g', 0, none⟩) 2 2 ((ty4 3 0 sInt none 0 0 .nil).app (ty4 3 0 sInt none 0 0 .nil))))), rfl, ⟨rfl, rfl, trivial, (fun_sim2 base_sim (fun_sim2 base_sim base_sim _ _) _ _)⟩, HF.out _ ?_⟩
    repeat first | (with_reducible refine Kept.set ?_ (by simp)) | with_reducible exact Kept.refl _ _
  · subst hs
    have kI := HQI.out
    have kI0 := kI.cel 0 _ rfl
    have kI1 := kI.cel 1 _ rfl
    have kI2 := kI.cel 2 _ rfl
    have kI3 := kI.cel 3 _ rfl
    clear kI
    go_upto_region 12 with fail
    go_region_law (first
      | (refine step_call (by rfl) 26 #[.agg #[.int .i64 3, .int .i64 0, .string sInt, .slice none 0 0], .slice (some ⟨v1.heap.size, 0, none⟩) 2 2] (by simp [go_sem]) _ (i_fun2' 3 0 sInt none 0 0 3 0 sInt none 0 0 3 0 sBool none 0 0 v1.heap.size 0 _ (Bx.new v1 [.int .i64 3, .int .i64 0, .string sInt, .slice none 0 0, .int .i64 3, .int .i64 0, .string sBool, .slice none 0 0] 25).lt (Bx.new v1 [.int .i64 3, .int .i64 0, .string sInt, .slice none 0 0, .int .i64 3, .int .i64 0, .string sBool, .slice none 0 0] 25).cel_cells) ?_; rintro v v2 ⟨g, rfl, bb, g', hg1, hg2, x1, x2⟩; have HK : Hid (Kept (fun _ => True) VP v2) := (HK1.out.trans (Kept.alloc _ _ _)).trans (kt bb); rw [World.size_alloc] at hg1; have hg0 := HK1.out.size; clear bb; have q2 := HQ2.out.kept HK.out trivial; have r0 := q2.cel 0 _ rfl; have f0 := q2.live 0; have r1 := q2.cel 1 _ rfl; have f1 := q2.live 1; have r2 := q2.cel 2 _ rfl; have f2 := q2.live 2; have r3 := q2.cel 3 _ rfl; have f3 := q2.live 3; have r4 := q2.cel 4 _ rfl; have f4 := q2.live 4; have r5 := q2.cel 5 _ rfl; have f5 := q2.live 5; clear q2)
      | (refine step_call (by rfl) 25 #[.string sBool, .slice none 0 0] (by simp [go_sem, sBool]) _ (i_named' sBool none 0 0 _) ?_; rintro v v1 ⟨rfl, bb⟩; have HK1 : Hid (Kept (fun _ => True) VP v1) := (Kept.drew _ _).trans (kt bb); clear bb; have kI := HQI.out.kept HK1.out trivial; have kI0a := kI.cel 0 _ rfl; have kI1a := kI.cel 1 _ rfl; have kI2a := kI.cel 2 _ rfl; have kI3a := kI.cel 3 _ rfl; clear kI; have kI := HQI.out.kept (HK1.out.trans (Kept.alloc _ v1 (.cells #[.int .i64 3, .int .i64 0, .string sInt, .slice none 0 0, .int .i64 3, .int .i64 0, .string sBool, .slice none 0 0] 25))) trivial; have kI0b := kI.cel 0 _ rfl; have kI1b := kI.cel 1 _ rfl; have kI2b := kI.cel 2 _ rfl; have kI3b := kI.cel 3 _ rfl; clear kI))
    all_goals
      have hzp := HZP.out
      have HF := hide (fin9 (X := (ty4 3 0 sArrow (some ⟨g, 0, none⟩) 2 2 ((ty4 3 0 sInt none 0 0 .nil).app (ty4 3 0 sArrow (some ⟨g', 0, none⟩) 2 2 ((ty4 3 0 sInt none 0 0 .nil).app (ty4 3 0 sBool none 0 0 .nil)))))) (HKP.out.trans HK.out) (own_ty (own_s (by omega) x1 (own_app2 own_base (own_ty (own_s (by omega) x2 (own_app2 own_base own_base (fun c hc => absurd hc List.not_mem_nil)) List.not_mem_nil (by unfold maxLen; omega))) (fun c hc => absurd hc List.not_mem_nil)) (by show g ∉ ([g'] : List Nat); simp only [List.mem_cons, List.not_mem_nil, or_false]; omega) (by unfold maxLen; omega))) 0)
      clear hzp
      go_wp2_with fail
      refine bodyPost_ret (v := .agg #[.int .i64 0, .slice none 0 0, .int .i64 3, .int .i64 0, .string sArrow, .slice (some ⟨g, 0, none⟩) 2 2]) (by simp [results, Try.results7, go_sem, r0, r1, r2, r3, r4, r5]) rfl ⟨sch 0 (ty4 3 0 sArrow (some ⟨g, 0, none⟩) 2 2 ((ty4 3 0 sInt none 0 0 .nil).app (ty4 3 0 sArrow (some ⟨g', 0, none⟩) 2 2 ((ty4 3 0 sInt none 0 0 .nil).app (ty4 3 0 sBool none 0 0 .nil))))), rfl, ⟨rfl, rfl, trivial, (fun_sim2 base_sim (fun_sim2 base_sim base_sim _ _) _ _)⟩, HF.out _ ?_⟩
      repeat first | (with_reducible refine Kept.set ?_ (by simp)) | with_reducible exact Kept.refl _ _
  · subst hs
    have kI := HQI.out
    have kI0 := kI.cel 0 _ rfl
    have kI1 := kI.cel 1 _ rfl
    have kI2 := kI.cel 2 _ rfl
    have kI3 := kI.cel 3 _ rfl
    clear kI
    go_upto_region 12 with fail
    go_region_law (first
      | (refine step_call (by rfl) 26 #[.agg #[.int .i64 3, .int .i64 0, .string sInt, .slice none 0 0], .slice (some ⟨v1.heap.size, 0, none⟩) 2 2] (by simp [go_sem]) _ (i_fun2' 3 0 sInt none 0 0 3 0 sInt none 0 0 3 0 sBool none 0 0 v1.heap.size 0 _ (Bx.new v1 [.int .i64 3, .int .i64 0, .string sInt, .slice none 0 0, .int .i64 3, .int .i64 0, .string sBool, .slice none 0 0] 25).lt (Bx.new v1 [.int .i64 3, .int .i64 0, .string sInt, .slice none 0 0, .int .i64 3, .int .i64 0, .string sBool, .slice none 0 0] 25).cel_cells) ?_; rintro v v2 ⟨g, rfl, bb, g', hg1, hg2, x1, x2⟩; have HK : Hid (Kept (fun _ => True) VP v2) := (HK1.out.trans (Kept.alloc _ _ _)).trans (kt bb); rw [World.size_alloc] at hg1; have hg0 := HK1.out.size; clear bb; have q2 := HQ2.out.kept HK.out trivial; have r0 := q2.cel 0 _ rfl; have f0 := q2.live 0; have r1 := q2.cel 1 _ rfl; have f1 := q2.live 1; have r2 := q2.cel 2 _ rfl; have f2 := q2.live 2; have r3 := q2.cel 3 _ rfl; have f3 := q2.live 3; have r4 := q2.cel 4 _ rfl; have f4 := q2.live 4; have r5 := q2.cel 5 _ rfl; have f5 := q2.live 5; clear q2)
      | (refine step_call (by rfl) 25 #[.string sBool, .slice none 0 0] (by simp [go_sem, sBool]) _ (i_named' sBool none 0 0 _) ?_; rintro v v1 ⟨rfl, bb⟩; have HK1 : Hid (Kept (fun _ => True) VP v1) := (Kept.drew _ _).trans (kt bb); clear bb; have kI := HQI.out.kept HK1.out trivial; have kI0a := kI.cel 0 _ rfl; have kI1a := kI.cel 1 _ rfl; have kI2a := kI.cel 2 _ rfl; have kI3a := kI.cel 3 _ rfl; clear kI; have kI := HQI.out.kept (HK1.out.trans (Kept.alloc _ v1 (.cells #[.int .i64 3, .int .i64 0, .string sInt, .slice none 0 0, .int .i64 3, .int .i64 0, .string sBool, .slice none 0 0] 25))) trivial; have kI0b := kI.cel 0 _ rfl; have kI1b := kI.cel 1 _ rfl; have kI2b := kI.cel 2 _ rfl; have kI3b := kI.cel 3 _ rfl; clear kI))
    all_goals
      have hzp := HZP.out
      have HF := hide (fin9 (X := (ty4 3 0 sArrow (some ⟨g, 0, none⟩) 2 2 ((ty4 3 0 sInt none 0 0 .nil).app (ty4 3 0 sArrow (some ⟨g', 0, none⟩) 2 2 ((ty4 3 0 sInt none 0 0 .nil).app (ty4 3 0 sBool none 0 0 .nil)))))) (HKP.out.trans HK.out) (own_ty (own_s (by omega) x1 (own_app2 own_base (own_ty (own_s (by omega) x2 (own_app2 own_base own_base (fun c hc => absurd hc List.not_mem_nil)) List.not_mem_nil (by unfold maxLen; omega))) (fun c hc => absurd hc List.not_mem_nil)) (by show g ∉ ([g'] : List Nat); simp only [List.mem_cons, List.not_mem_nil, or_false]; omega) (by unfold maxLen; omega))) 0)
      clear hzp
      go_wp2_with fail
      refine bodyPost_ret (v := .agg #[.int .i64 0, .slice none 0 0, .int .i64 3, .int .i64 0, .string sArrow, .slice (some ⟨g, 0, none⟩) 2 2]) (by simp [results, Try.results7, go_sem, r0, r1, r2, r3, r4, r5]) rfl ⟨sch 0 (ty4 3 0 sArrow (some ⟨g, 0, none⟩) 2 2 ((ty4 3 0 sInt none 0 0 .nil).app (ty4 3 0 sArrow (some ⟨g', 0, none⟩) 2 2 ((ty4 3 0 sInt none 0 0 .nil).app (ty4 3 0 sBool none 0 0 .nil))))), rfl, ⟨rfl, rfl, trivial, (fun_sim2 base_sim (fun_sim2 base_sim base_sim _ _) _ _)⟩, HF.out _ ?_⟩
      repeat first | (with_reducible refine Kept.set ?_ (by simp)) | with_reducible exact Kept.refl _ _
  · subst hs
    have kC := HQC.out
    have kC0 := kC.cel 0 _ rfl
    have kC1 := kC.cel 1 _ rfl
    have kC2 := kC.cel 2 _ rfl
    have kC3 := kC.cel 3 _ rfl
    clear kC
    have kI := HQI.out
    have kI0 := kI.cel 0 _ rfl
    have kI1 := kI.cel 1 _ rfl
    have kI2 := kI.cel 2 _ rfl
    have kI3 := kI.cel 3 _ rfl
    clear kI
    have HBl := hide (Bx.new VP [.int .i64 3, .int .i64 0, .string sInt, .slice none 0 0] 25)
    go_wp2_with fail
    refine (i_fun1 3 0 sChar none 0 0 3 0 sInt none 0 0 VP.heap.size 0 _ HBl.out.lt HBl.out.cel_cells).mono ?_
    rintro e v1 ⟨g, rfl, bb, hg1, x1⟩
    have HK : Hid (Kept (fun _ => True) VP v1) := (Kept.alloc _ _ _).trans (kt bb)
    rw [World.size_alloc] at hg1
    clear bb
    have hzp := HZP.out
    have HF := hide (fin9 (X := (ty4 3 0 sArrow (some ⟨g, 0, none⟩) 2 2 ((ty4 3 0 sChar none 0 0 .nil).app (ty4 3 0 sInt none 0 0 .nil)))) (HKP.out.trans HK.out) (own_ty (own_s (by omega) x1 (own_app2 own_base own_base (fun c hc => absurd hc List.not_mem_nil)) List.not_mem_nil (by unfold maxLen; omega))) 0)
    have q2 := HQ2.out.kept HK.out trivial
    have r0 := q2.cel 0 _ rfl
    have f0 := q2.live 0
    have r1 := q2.cel 1 _ rfl
    have f1 := q2.live 1
    have r2 := q2.cel 2 _ rfl
    have f2 := q2.live 2
    have r3 := q2.cel 3 _ rfl
    have f3 := q2.live 3
    have r4 := q2.cel 4 _ rfl
    have f4 := q2.live 4
    have r5 := q2.cel 5 _ rfl
    have f5 := q2.live 5
    clear q2
    clear hzp
    go_wp2_with fail
    refine bodyPost_ret (v := .agg #[.int .i64 0, .slice none 0 0, .int .i64 3, .int .i64 0, .string sArrow, .slice (some ⟨g, 0, none⟩) 2 2]) (by simp [results, Try.results7, go_sem, r0, r1, r2, r3, r4, r5]) rfl ⟨sch 0 (ty4 3 0 sArrow (some ⟨g, 0, none⟩) 2 2 ((ty4 3 0 sChar none 0 0 .nil).app (ty4 3 0 sInt none 0 0 .nil))), rfl, ⟨rfl, rfl, trivial, (fun_sim2 base_sim base_sim _ _)⟩, HF.out _ ?_⟩
    repeat first | (with_reducible refine Kept.set ?_ (by simp)) | with_reducible exact Kept.refl _ _
  · subst hs
    have kI := HQI.out
    have kI0 := kI.cel 0 _ rfl
    have kI1 := kI.cel 1 _ rfl
    have kI2 := kI.cel 2 _ rfl
    have kI3 := kI.cel 3 _ rfl
    clear kI
    have kC := HQC.out
    have kC0 := kC.cel 0 _ rfl
    have kC1 := kC.cel 1 _ rfl
    have kC2 := kC.cel 2 _ rfl
    have kC3 := kC.cel 3 _ rfl
    clear kC
    have HBl := hide (Bx.new VP [.int .i64 3, .int .i64 0, .string sChar, .slice none 0 0] 25)
    go_wp2_with fail
    refine (i_fun1 3 0 sInt none 0 0 3 0 sChar none 0 0 VP.heap.size 0 _ HBl.out.lt HBl.out.cel_cells).mono ?_
    rintro e v1 ⟨g, rfl, bb, hg1, x1⟩
    have HK : Hid (Kept (fun _ => True) VP v1) := (Kept.alloc _ _ _).trans (kt bb)
    rw [World.size_alloc] at hg1
    clear bb
    have hzp := HZP.out
    have HF := hide (fin9 (X := (ty4 3 0 sArrow (some ⟨g, 0, none⟩) 2 2 ((ty4 3 0 sInt none 0 0 .nil).app (ty4 3 0 sChar none 0 0 .nil)))) (HKP.out.trans HK.out) (own_ty (own_s (by omega) x1 (own_app2 own_base own_base (fun c hc => absurd hc List.not_mem_nil)) List.not_mem_nil (by unfold maxLen; omega))) 0)
    have q2 := HQ2.out.kept HK.out trivial
    have r0 := q2.cel 0 _ rfl
    have f0 := q2.live 0
    have r1 := q2.cel 1 _ rfl
    have f1 := q2.live 1
    have r2 := q2.cel 2 _ rfl
    have f2 := q2.live 2
    have r3 := q2.cel 3 _ rfl
    have f3 := q2.live 3
    have r4 := q2.cel 4 _ rfl
    have f4 := q2.live 4
    have r5 := q2.cel 5 _ rfl
    have f5 := q2.live 5
    clear q2
    clear hzp
    go_wp2_with fail
    refine bodyPost_ret (v := .agg #[.int .i64 0, .slice none 0 0, .int .i64 3, .int .i64 0, .string sArrow, .slice (some ⟨g, 0, none⟩) 2 2]) (by simp [results, Try.results7, go_sem, r0, r1, r2, r3, r4, r5]) rfl ⟨sch 0 (ty4 3 0 sArrow (some ⟨g, 0, none⟩) 2 2 ((ty4 3 0 sInt none 0 0 .nil).app (ty4 3 0 sChar none 0 0 .nil))), rfl, ⟨rfl, rfl, trivial, (fun_sim2 base_sim base_sim _ _)⟩, HF.out _ ?_⟩
    repeat first | (with_reducible refine Kept.set ?_ (by simp)) | with_reducible exact Kept.refl _ _
  · subst hs
    have kI := HQI.out
    have kI0 := kI.cel 0 _ rfl
    have kI1 := kI.cel 1 _ rfl
    have kI2 := kI.cel 2 _ rfl
    have kI3 := kI.cel 3 _ rfl
    clear kI
    have kC := HQC.out
    have kC0 := kC.cel 0 _ rfl
    have kC1 := kC.cel 1 _ rfl
    have kC2 := kC.cel 2 _ rfl
    have kC3 := kC.cel 3 _ rfl
    clear kC
    have kI := HQI.out.kept (Kept.alloc (fun _ => True) VP (.cells #[.int .i64 3, .int .i64 0, .string sChar, .slice none 0 0] 25)) trivial
    have kI0c := kI.cel 0 _ rfl
    have kI1c := kI.cel 1 _ rfl
    have kI2c := kI.cel 2 _ rfl
    have kI3c := kI.cel 3 _ rfl
    clear kI
    go_upto_region 18 with fail
    go_region_law (first
      | (refine step_call (by rfl) 26 #[.agg #[.int .i64 3, .int .i64 0, .string sInt, .slice none 0 0], .slice (some ⟨v1.heap.size, 0, none⟩) 1 1] (by simp [go_sem]) _ (i_fun1' 3 0 sInt none 0 0 3 0 sList (some ⟨VP.heap.size, 0, none⟩) 1 1 v1.heap.size 0 _ (Bx.new v1 [.int .i64 3, .int .i64 0, .string sList, .slice (some ⟨VP.heap.size, 0, none⟩) 1 1] 25).lt (Bx.new v1 [.int .i64 3, .int .i64 0, .string sList, .slice (some ⟨VP.heap.size, 0, none⟩) 1 1] 25).cel_cells) ?_; rintro v v2 ⟨g, rfl, bb, hg1, x1⟩; have HK : Hid (Kept (fun _ => True) VP v2) := (HK1.out.trans (Kept.alloc _ _ _)).trans (kt bb); have x2 := (HXC.out.kept (Kept.alloc (fun _ => True) _ (.cells #[.int .i64 3, .int .i64 0, .string sList, .slice (some ⟨VP.heap.size, 0, none⟩) 1 1] 25)) trivial).below bb; rw [World.size_alloc] at hg1; clear bb; have q2 := HQ2.out.kept HK.out trivial; have r0 := q2.cel 0 _ rfl; have f0 := q2.live 0; have r1 := q2.cel 1 _ rfl; have f1 := q2.live 1; have r2 := q2.cel 2 _ rfl; have f2 := q2.live 2; have r3 := q2.cel 3 _ rfl; have f3 := q2.live 3; have r4 := q2.cel 4 _ rfl; have f4 := q2.live 4; have r5 := q2.cel 5 _ rfl; have f5 := q2.live 5; clear q2)
      | (refine step_call (by rfl) 25 #[.string sList, .slice (some ⟨VP.heap.size, 0, none⟩) 1 1] (by simp [go_sem, sList]) _ (i_named' sList (some ⟨VP.heap.size, 0, none⟩) 1 1 _) ?_; rintro v v1 ⟨rfl, bb⟩; have HK1 : Hid (Kept (fun _ => True) VP v1) := ((Kept.alloc _ _ _).trans (Kept.drew _ _)).trans (kt bb); have HXC : Hid (Bx v1 VP.heap.size [.int .i64 3, .int .i64 0, .string sChar, .slice none 0 0]) := ((Bx.new VP [.int .i64 3, .int .i64 0, .string sChar, .slice none 0 0] 25).kept (Kept.drew (fun _ => True) _) trivial).below bb; have hg9 : VP.heap.size < v1.heap.size := HXC.out.lt; clear bb; have kI := HQI.out.kept HK1.out trivial; have kI0a := kI.cel 0 _ rfl; have kI1a := kI.cel 1 _ rfl; have kI2a := kI.cel 2 _ rfl; have kI3a := kI.cel 3 _ rfl; clear kI; have kI := HQI.out.kept (HK1.out.trans (Kept.alloc _ v1 (.cells #[.int .i64 3, .int .i64 0, .string sList, .slice (some ⟨VP.heap.size, 0, none⟩) 1 1] 25))) trivial; have kI0b := kI.cel 0 _ rfl; have kI1b := kI.cel 1 _ rfl; have kI2b := kI.cel 2 _ rfl; have kI3b := kI.cel 3 _ rfl; clear kI))
    all_goals
      have hzp := HZP.out
      have HF := hide (fin9 (X := (ty4 3 0 sArrow (some ⟨g, 0, none⟩) 2 2 ((ty4 3 0 sInt none 0 0 .nil).app (ty4 3 0 sList (some ⟨VP.heap.size, 0, none⟩) 1 1 (ty4 3 0 sChar none 0 0 .nil))))) (HKP.out.trans HK.out) (own_ty (own_s (by omega) x1 (own_app2 own_base (own_ty (own_s (by omega) x2 own_base List.not_mem_nil (by unfold maxLen; omega))) (fun c hc => absurd hc List.not_mem_nil)) (by show g ∉ ([VP.heap.size] : List Nat); simp only [List.mem_cons, List.not_mem_nil, or_false]; omega) (by unfold maxLen; omega))) 0)
      clear hzp
      go_wp2_with fail
      refine bodyPost_ret (v := .agg #[.int .i64 0, .slice none 0 0, .int .i64 3, .int .i64 0, .string sArrow, .slice (some ⟨g, 0, none⟩) 2 2]) (by simp [results, Try.results7, go_sem, r0, r1, r2, r3, r4, r5]) rfl ⟨sch 0 (ty4 3 0 sArrow (some ⟨g, 0, none⟩) 2 2 ((ty4 3 0 sInt none 0 0 .nil).app (ty4 3 0 sList (some ⟨VP.heap.size, 0, none⟩) 1 1 (ty4 3 0 sChar none 0 0 .nil)))), rfl, ⟨rfl, rfl, trivial, (fun_sim2 base_sim (list_sim2 base_sim _ _) _ _)⟩, HF.out _ ?_⟩
      repeat first | (with_reducible refine Kept.set ?_ (by simp)) | with_reducible exact Kept.refl _ _
  · subst hs
    go_wp2_with fail
    refine (i_lst (w2.heap.size + 1 + 1) VP (HQG.out.kept (Kept.refl (fun _ => True) VP) trivial)).mono ?_
    rintro e u1 ⟨g1, rfl, bb, hg1, y1⟩
    have HK1 : Hid (Kept (fun _ => True) VP u1) := (Kept.refl (fun _ => True) VP).trans (kt bb)
    have HY1 := hide y1
    have HL1 : Hid (VP.heap.size ≤ g1 ∧ g1 < u1.heap.size ∧ VP.heap.size ≤ u1.heap.size) := ⟨Nat.le_trans (Kept.refl (fun _ => True) VP).size hg1, y1.lt, bb.size⟩
    have HB1 := hide bb
    clear bb y1 hg1
    go_wp2_with fail
    refine (i_lst (w2.heap.size + 1 + 1) u1 (HQG.out.kept HK1.out trivial)).mono ?_
    rintro e u2 ⟨g2, rfl, bb, hg2, y2⟩
    have HK2 : Hid (Kept (fun _ => True) VP u2) := HK1.out.trans (kt bb)
    have HY2 := hide y2
    have HL2 : Hid (VP.heap.size ≤ g2 ∧ g2 < u2.heap.size ∧ u1.heap.size ≤ g2 ∧ u1.heap.size ≤ u2.heap.size) := ⟨Nat.le_trans HK1.out.size hg2, y2.lt, hg2, bb.size⟩
    have HB2 := hide bb
    clear bb y2 hg2
    go_wp2_with fail
    refine (i_lst (w2.heap.size + 1 + 1) u2 (HQG.out.kept HK2.out trivial)).mono ?_
    rintro e u3 ⟨g3, rfl, bb, hg3, y3⟩
    have HK3 : Hid (Kept (fun _ => True) VP u3) := HK2.out.trans (kt bb)
    have HY3 := hide y3
    have HL3 : Hid (VP.heap.size ≤ g3 ∧ g3 < u3.heap.size ∧ u2.heap.size ≤ g3 ∧ u2.heap.size ≤ u3.heap.size) := ⟨Nat.le_trans HK2.out.size hg3, y3.lt, hg3, bb.size⟩
    have HB3 := hide bb
    clear bb y3 hg3
    have HBl := hide (Bx.new u3 [.int .i64 3, .int .i64 0, .string sList, .slice (some ⟨g2, 0, none⟩) 1 1, .int .i64 3, .int .i64 0, .string sList, .slice (some ⟨g3, 0, none⟩) 1 1] 25)
    go_wp2_with fail
    refine (i_fun2 3 0 sList (some ⟨g1, 0, none⟩) 1 1 3 0 sList (some ⟨g2, 0, none⟩) 1 1 3 0 sList (some ⟨g3, 0, none⟩) 1 1 u3.heap.size 0 _ HBl.out.lt HBl.out.cel_cells).mono ?_
    rintro e v1 ⟨g, rfl, bb, g', hg1, hg2, x1, x2⟩
    have HK : Hid (Kept (fun _ => True) VP v1) := (HK3.out.trans (Kept.alloc _ _ _)).trans (kt bb)
    have kz : Kept (fun _ => True) u3 v1 := (Kept.alloc _ _ _).trans (kt bb)
    have y1 := ((HY1.out.below HB2.out).below HB3.out).kept kz trivial
    have y2 := (HY2.out.below HB3.out).kept kz trivial
    have y3 := HY3.out.kept kz trivial
    rw [World.size_alloc] at hg1
    have e1 := HL1.out
    have e2 := HL2.out
    have e3 := HL3.out
    clear bb kz
    have hzp := HZP.out
    have HF := hide (fin9 (X := (ty4 3 0 sArrow (some ⟨g, 0, none⟩) 2 2 ((ty4 3 0 sList (some ⟨g1, 0, none⟩) 1 1 (ty4 2 0 (⟨#[]⟩) none 0 0 .nil)).app (ty4 3 0 sArrow (some ⟨g', 0, none⟩) 2 2 ((ty4 3 0 sList (some ⟨g2, 0, none⟩) 1 1 (ty4 2 0 (⟨#[]⟩) none 0 0 .nil)).app (ty4 3 0 sList (some ⟨g3, 0, none⟩) 1 1 (ty4 2 0 (⟨#[]⟩) none 0 0 .nil))))))) (HKP.out.trans HK.out) (own_ty (own_s (by omega) x1 (own_app2 (own_ty (own_s (by omega) y1 own_base List.not_mem_nil (by unfold maxLen; omega))) (own_ty (own_s (by omega) x2 (own_app2 (own_ty (own_s (by omega) y2 own_base List.not_mem_nil (by unfold maxLen; omega))) (own_ty (own_s (by omega) y3 own_base List.not_mem_nil (by unfold maxLen; omega))) (by intro c hc; have hc' : c ∈ ([g2] : List Nat) := hc; show c ∉ ([g3] : List Nat); simp only [List.mem_cons, List.not_mem_nil, or_false] at hc' ⊢; omega)) (by show g' ∉ ([g2, g3] : List Nat); simp only [List.mem_cons, List.not_mem_nil, or_false]; omega) (by unfold maxLen; omega))) (by intro c hc; have hc' : c ∈ ([g1] : List Nat) := hc; show c ∉ ([g', g2, g3] : List Nat); simp only [List.mem_cons, List.not_mem_nil, or_false] at hc' ⊢; omega)) (by show g ∉ ([g1, g', g2, g3] : List Nat); simp only [List.mem_cons, List.not_mem_nil, or_false]; omega) (by unfold maxLen; omega))) 1)
    have q2 := HQ2.out.kept HK.out trivial
    have r0 := q2.cel 0 _ rfl
    have f0 := q2.live 0
    have r1 := q2.cel 1 _ rfl
    have f1 := q2.live 1
    have r2 := q2.cel 2 _ rfl
    have f2 := q2.live 2
    have r3 := q2.cel 3 _ rfl
    have f3 := q2.live 3
    have r4 := q2.cel 4 _ rfl
    have f4 := q2.live 4
    have r5 := q2.cel 5 _ rfl
    have f5 := q2.live 5
    clear q2
    clear hzp
    go_wp2_with fail
    refine bodyPost_ret (v := .agg #[.int .i64 1, .slice none 0 0, .int .i64 3, .int .i64 0, .string sArrow, .slice (some ⟨g, 0, none⟩) 2 2]) (by simp [results, Try.results7, go_sem, r0, r1, r2, r3, r4, r5]) rfl ⟨sch 1 (ty4 3 0 sArrow (some ⟨g, 0, none⟩) 2 2 ((ty4 3 0 sList (some ⟨g1, 0, none⟩) 1 1 (ty4 2 0 (⟨#[]⟩) none 0 0 .nil)).app (ty4 3 0 sArrow (some ⟨g', 0, none⟩) 2 2 ((ty4 3 0 sList (some ⟨g2, 0, none⟩) 1 1 (ty4 2 0 (⟨#[]⟩) none 0 0 .nil)).app (ty4 3 0 sList (some ⟨g3, 0, none⟩) 1 1 (ty4 2 0 (⟨#[]⟩) none 0 0 .nil)))))), rfl, ⟨rfl, rfl, trivial, (fun_sim2 (list_sim2 base_sim _ _) (fun_sim2 (list_sim2 base_sim _ _) (list_sim2 base_sim _ _) _ _) _ _)⟩, HF.out _ ?_⟩
    repeat first | (with_reducible refine Kept.set ?_ (by simp)) | with_reducible exact Kept.refl _ _
  · subst hs
    have kG := HQG.out
    have kG0 := kG.cel 0 _ rfl
    have kG1 := kG.cel 1 _ rfl
    have kG2 := kG.cel 2 _ rfl
    have kG3 := kG.cel 3 _ rfl
    clear kG
    have kH := HQH.out
    have kH0 := kH.cel 0 _ rfl
    have kH1 := kH.cel 1 _ rfl
    have kH2 := kH.cel 2 _ rfl
    have kH3 := kH.cel 3 _ rfl
    clear kH
    have HBl := hide (Bx.new VP [.int .i64 2, .int .i64 1, .string ⟨#[]⟩, .slice none 0 0, .int .i64 2, .int .i64 1, .string ⟨#[]⟩, .slice none 0 0] 25)
    go_wp2_with fail
    refine (i_fun2 2 0 (⟨#[]⟩) none 0 0 2 1 (⟨#[]⟩) none 0 0 2 1 (⟨#[]⟩) none 0 0 VP.heap.size 0 _ HBl.out.lt HBl.out.cel_cells).mono ?_
    rintro e v1 ⟨g, rfl, bb, g', hg1, hg2, x1, x2⟩
    have HK : Hid (Kept (fun _ => True) VP v1) := (Kept.alloc _ _ _).trans (kt bb)
    rw [World.size_alloc] at hg1
    clear bb
    have hzp := HZP.out
    have HF := hide (fin9 (X := (ty4 3 0 sArrow (some ⟨g, 0, none⟩) 2 2 ((ty4 2 0 (⟨#[]⟩) none 0 0 .nil).app (ty4 3 0 sArrow (some ⟨g', 0, none⟩) 2 2 ((ty4 2 1 (⟨#[]⟩) none 0 0 .nil).app (ty4 2 1 (⟨#[]⟩) none 0 0 .nil)))))) (HKP.out.trans HK.out) (own_ty (own_s (by omega) x1 (own_app2 own_base (own_ty (own_s (by omega) x2 (own_app2 own_base own_base (fun c hc => absurd hc List.not_mem_nil)) List.not_mem_nil (by unfold maxLen; omega))) (fun c hc => absurd hc List.not_mem_nil)) (by show g ∉ ([g'] : List Nat); simp only [List.mem_cons, List.not_mem_nil, or_false]; omega) (by unfold maxLen; omega))) 2)
    have q2 := HQ2.out.kept HK.out trivial
    have r0 := q2.cel 0 _ rfl
    have f0 := q2.live 0
    have r1 := q2.cel 1 _ rfl
    have f1 := q2.live 1
    have r2 := q2.cel 2 _ rfl
    have f2 := q2.live 2
    have r3 := q2.cel 3 _ rfl
    have f3 := q2.live 3
    have r4 := q2.cel 4 _ rfl
    have f4 := q2.live 4
    have r5 := q2.cel 5 _ rfl
    have f5 := q2.live 5
    clear q2
    clear hzp
    go_wp2_with fail
    refine bodyPost_ret (v := .agg #[.int .i64 2, .slice none 0 0, .int .i64 3, .int .i64 0, .string sArrow, .slice (some ⟨g, 0, none⟩) 2 2]) (by simp [results, Try.results7, go_sem, r0, r1, r2, r3, r4, r5]) rfl ⟨sch 2 (ty4 3 0 sArrow (some ⟨g, 0, none⟩) 2 2 ((ty4 2 0 (⟨#[]⟩) none 0 0 .nil).app (ty4 3 0 sArrow (some ⟨g', 0, none⟩) 2 2 ((ty4 2 1 (⟨#[]⟩) none 0 0 .nil).app (ty4 2 1 (⟨#[]⟩) none 0 0 .nil))))), rfl, ⟨rfl, rfl, trivial, (fun_sim2 base_sim (fun_sim2 base_sim base_sim _ _) _ _)⟩, HF.out _ ?_⟩
    repeat first | (with_reducible refine Kept.set ?_ (by simp)) | with_reducible exact Kept.refl _ _
  · subst hs
    have kC := HQC.out
    have kC0 := kC.cel 0 _ rfl
    have kC1 := kC.cel 1 _ rfl
    have kC2 := kC.cel 2 _ rfl
    have kC3 := kC.cel 3 _ rfl
    clear kC
    have kG := HQG.out
    have kG0 := kG.cel 0 _ rfl
    have kG1 := kG.cel 1 _ rfl
    have kG2 := kG.cel 2 _ rfl
    have kG3 := kG.cel 3 _ rfl
    clear kG
    have kG := HQG.out.kept (Kept.alloc (fun _ => True) VP (.cells #[.int .i64 3, .int .i64 0, .string sChar, .slice none 0 0] 25)) trivial
    have kG0c := kG.cel 0 _ rfl
    have kG1c := kG.cel 1 _ rfl
    have kG2c := kG.cel 2 _ rfl
    have kG3c := kG.cel 3 _ rfl
    clear kG
    have kC := HQC.out.kept (Kept.alloc (fun _ => True) VP (.cells #[.int .i64 2, .int .i64 0, .string ⟨#[]⟩, .slice none 0 0] 25)) trivial
    have kC0c := kC.cel 0 _ rfl
    have kC1c := kC.cel 1 _ rfl
    have kC2c := kC.cel 2 _ rfl
    have kC3c := kC.cel 3 _ rfl
    clear kC
    go_upto_region 25 with fail
    go_region_law (first
      | (refine step_call (by rfl) 26 #[.agg #[.int .i64 3, .int .i64 0, .string sList, .slice (some ⟨VP.heap.size, 0, none⟩) 1 1], .slice (some ⟨VP.heap.size + 1, 0, none⟩) 1 1] (by simp [go_sem]) _ (i_fun1' 3 0 sList (some ⟨VP.heap.size, 0, none⟩) 1 1 2 0 (⟨#[]⟩) none 0 0 (VP.heap.size + 1) 0 _ (HXG.out).lt (HXG.out).cel_cells) ?_; rintro v v2 ⟨g, rfl, bb, hg1, x1⟩; have HK : Hid (Kept (fun _ => True) VP v2) := (HK1.out).trans (kt bb); have x2 := (HXC.out).below bb; have hg8 := HXC.out.lt; have hg0 := HK1.out.size; clear bb; have q2 := HQ2.out.kept HK.out trivial; have r0 := q2.cel 0 _ rfl; have f0 := q2.live 0; have r1 := q2.cel 1 _ rfl; have f1 := q2.live 1; have r2 := q2.cel 2 _ rfl; have f2 := q2.live 2; have r3 := q2.cel 3 _ rfl; have f3 := q2.live 3; have r4 := q2.cel 4 _ rfl; have f4 := q2.live 4; have r5 := q2.cel 5 _ rfl; have f5 := q2.live 5; clear q2)
      | (refine step_call (by rfl) 26 #[.agg #[.int .i64 3, .int .i64 0, .string sList, .slice (some ⟨VP.heap.size + 1, 0, none⟩) 1 1], .slice (some ⟨VP.heap.size, 0, none⟩) 1 1] (by simp [go_sem]) _ (i_fun1' 3 0 sList (some ⟨VP.heap.size + 1, 0, none⟩) 1 1 2 0 (⟨#[]⟩) none 0 0 (VP.heap.size) 0 _ (HXG.out).lt (HXG.out).cel_cells) ?_; rintro v v2 ⟨g, rfl, bb, hg1, x1⟩; have HK : Hid (Kept (fun _ => True) VP v2) := (HK1.out).trans (kt bb); have x2 := (HXC.out).below bb; have hg8 := HXC.out.lt; have hg0 := HK1.out.size; clear bb; have q2 := HQ2.out.kept HK.out trivial; have r0 := q2.cel 0 _ rfl; have f0 := q2.live 0; have r1 := q2.cel 1 _ rfl; have f1 := q2.live 1; have r2 := q2.cel 2 _ rfl; have f2 := q2.live 2; have r3 := q2.cel 3 _ rfl; have f3 := q2.live 3; have r4 := q2.cel 4 _ rfl; have f4 := q2.live 4; have r5 := q2.cel 5 _ rfl; have f5 := q2.live 5; clear q2)
      | (refine step_call (by rfl) 26 #[.agg #[.int .i64 3, .int .i64 0, .string sList, .slice (some ⟨VP.heap.size, 0, none⟩) 1 1], .slice (some ⟨v1.heap.size, 0, none⟩) 1 1] (by simp [go_sem]) _ (i_fun1' 3 0 sList (some ⟨VP.heap.size, 0, none⟩) 1 1 2 0 (⟨#[]⟩) none 0 0 (v1.heap.size) 0 _ (Bx.new v1 [.int .i64 2, .int .i64 0, .string ⟨#[]⟩, .slice none 0 0] 25).lt (Bx.new v1 [.int .i64 2, .int .i64 0, .string ⟨#[]⟩, .slice none 0 0] 25).cel_cells) ?_; rintro v v2 ⟨g, rfl, bb, hg1, x1⟩; have HK : Hid (Kept (fun _ => True) VP v2) := (HK1.out.trans (Kept.alloc _ _ _)).trans (kt bb); have x2 := (HXC.out.kept (Kept.alloc (fun _ => True) _ (.cells #[.int .i64 2, .int .i64 0, .string ⟨#[]⟩, .slice none 0 0] 25)) trivial).below bb; have hg8 := HXC.out.lt; rw [World.size_alloc] at hg1; have hg0 := HK1.out.size; clear bb; have q2 := HQ2.out.kept HK.out trivial; have r0 := q2.cel 0 _ rfl; have f0 := q2.live 0; have r1 := q2.cel 1 _ rfl; have f1 := q2.live 1; have r2 := q2.cel 2 _ rfl; have f2 := q2.live 2; have r3 := q2.cel 3 _ rfl; have f3 := q2.live 3; have r4 := q2.cel 4 _ rfl; have f4 := q2.live 4; have r5 := q2.cel 5 _ rfl; have f5 := q2.live 5; clear q2)
      | (refine step_call (by rfl) 25 #[.string sList, .slice (some ⟨VP.heap.size, 0, none⟩) 1 1] (by simp [go_sem, sList]) _ (i_named' sList (some ⟨VP.heap.size, 0, none⟩) 1 1 _) ?_; rintro v v1 ⟨rfl, bb⟩; have HK1 : Hid (Kept (fun _ => True) VP v1) := (((Kept.alloc _ _ _).trans (Kept.alloc _ _ _)).trans (Kept.drew _ _)).trans (kt bb); have HXC : Hid (Bx v1 (VP.heap.size) [.int .i64 3, .int .i64 0, .string sChar, .slice none 0 0]) := (((Bx.new VP [.int .i64 3, .int .i64 0, .string sChar, .slice none 0 0] 25).kept (Kept.alloc (fun _ => True) _ (.cells #[.int .i64 2, .int .i64 0, .string ⟨#[]⟩, .slice none 0 0] 25)) trivial).kept (Kept.drew (fun _ => True) _) trivial).below bb; have HXG : Hid (Bx v1 (VP.heap.size + 1) [.int .i64 2, .int .i64 0, .string ⟨#[]⟩, .slice none 0 0]) := (bx1 (VP.alloc (.cells #[.int .i64 3, .int .i64 0, .string sChar, .slice none 0 0] 25)) [.int .i64 2, .int .i64 0, .string ⟨#[]⟩, .slice none 0 0] (by simp)).below bb; clear bb; have kG := HQG.out.kept HK1.out trivial; have kG0a := kG.cel 0 _ rfl; have kG1a := kG.cel 1 _ rfl; have kG2a := kG.cel 2 _ rfl; have kG3a := kG.cel 3 _ rfl; clear kG)
      | (refine step_call (by rfl) 25 #[.string sList, .slice (some ⟨VP.heap.size + 1, 0, none⟩) 1 1] (by simp [go_sem, sList]) _ (i_named' sList (some ⟨VP.heap.size + 1, 0, none⟩) 1 1 _) ?_; rintro v v1 ⟨rfl, bb⟩; have HK1 : Hid (Kept (fun _ => True) VP v1) := (((Kept.alloc _ _ _).trans (Kept.alloc _ _ _)).trans (Kept.drew _ _)).trans (kt bb); have HXC : Hid (Bx v1 (VP.heap.size + 1) [.int .i64 3, .int .i64 0, .string sChar, .slice none 0 0]) := (bx1 (VP.alloc (.cells #[.int .i64 2, .int .i64 0, .string ⟨#[]⟩, .slice none 0 0] 25)) [.int .i64 3, .int .i64 0, .string sChar, .slice none 0 0] (by simp)).below bb; have HXG : Hid (Bx v1 (VP.heap.size) [.int .i64 2, .int .i64 0, .string ⟨#[]⟩, .slice none 0 0]) := (((Bx.new VP [.int .i64 2, .int .i64 0, .string ⟨#[]⟩, .slice none 0 0] 25).kept (Kept.alloc (fun _ => True) _ (.cells #[.int .i64 3, .int .i64 0, .string sChar, .slice none 0 0] 25)) trivial).kept (Kept.drew (fun _ => True) _) trivial).below bb; clear bb; have kG := HQG.out.kept HK1.out trivial; have kG0a := kG.cel 0 _ rfl; have kG1a := kG.cel 1 _ rfl; have kG2a := kG.cel 2 _ rfl; have kG3a := kG.cel 3 _ rfl; clear kG)
      | (refine step_call (by rfl) 25 #[.string sList, .slice (some ⟨VP.heap.size, 0, none⟩) 1 1] (by simp [go_sem, sList]) _ (i_named' sList (some ⟨VP.heap.size, 0, none⟩) 1 1 _) ?_; rintro v v1 ⟨rfl, bb⟩; have HK1 : Hid (Kept (fun _ => True) VP v1) := ((Kept.alloc _ _ _).trans (Kept.drew _ _)).trans (kt bb); have HXC : Hid (Bx v1 (VP.heap.size) [.int .i64 3, .int .i64 0, .string sChar, .slice none 0 0]) := ((Bx.new VP [.int .i64 3, .int .i64 0, .string sChar, .slice none 0 0] 25).kept (Kept.drew (fun _ => True) _) trivial).below bb; clear bb; have kG := HQG.out.kept HK1.out trivial; have kG0a := kG.cel 0 _ rfl; have kG1a := kG.cel 1 _ rfl; have kG2a := kG.cel 2 _ rfl; have kG3a := kG.cel 3 _ rfl; clear kG))
    all_goals
      first
        | (have hzp := HZP.out; have HF := hide (fin9 (X := (ty4 3 0 sArrow (some ⟨g, 0, none⟩) 2 2 ((ty4 3 0 sList (some ⟨VP.heap.size, 0, none⟩) 1 1 (ty4 3 0 sChar none 0 0 .nil)).app (ty4 2 0 (⟨#[]⟩) none 0 0 .nil)))) (HKP.out.trans HK.out) (own_ty (own_s (by omega) x1 (own_app2 (own_ty (own_s (by omega) x2 own_base List.not_mem_nil (by unfold maxLen; omega))) own_base (fun c _ => List.not_mem_nil)) (by show g ∉ ([VP.heap.size] : List Nat); simp only [List.mem_cons, List.not_mem_nil, or_false]; omega) (by unfold maxLen; omega))) 1); clear hzp; go_wp2_with fail; refine bodyPost_ret (v := .agg #[.int .i64 1, .slice none 0 0, .int .i64 3, .int .i64 0, .string sArrow, .slice (some ⟨g, 0, none⟩) 2 2]) (by simp [results, Try.results7, go_sem, r0, r1, r2, r3, r4, r5]) rfl ⟨sch 1 (ty4 3 0 sArrow (some ⟨g, 0, none⟩) 2 2 ((ty4 3 0 sList (some ⟨VP.heap.size, 0, none⟩) 1 1 (ty4 3 0 sChar none 0 0 .nil)).app (ty4 2 0 (⟨#[]⟩) none 0 0 .nil))), rfl, ⟨rfl, rfl, trivial, (fun_sim2 (list_sim2 base_sim _ _) base_sim _ _)⟩, HF.out _ ?_⟩; (repeat first | (with_reducible refine Kept.set ?_ (by simp)) | with_reducible exact Kept.refl _ _))
        | (have hzp := HZP.out; have HF := hide (fin9 (X := (ty4 3 0 sArrow (some ⟨g, 0, none⟩) 2 2 ((ty4 3 0 sList (some ⟨VP.heap.size + 1, 0, none⟩) 1 1 (ty4 3 0 sChar none 0 0 .nil)).app (ty4 2 0 (⟨#[]⟩) none 0 0 .nil)))) (HKP.out.trans HK.out) (own_ty (own_s (by omega) x1 (own_app2 (own_ty (own_s (by omega) x2 own_base List.not_mem_nil (by unfold maxLen; omega))) own_base (fun c _ => List.not_mem_nil)) (by show g ∉ ([VP.heap.size + 1] : List Nat); simp only [List.mem_cons, List.not_mem_nil, or_false]; omega) (by unfold maxLen; omega))) 1); clear hzp; go_wp2_with fail; refine bodyPost_ret (v := .agg #[.int .i64 1, .slice none 0 0, .int .i64 3, .int .i64 0, .string sArrow, .slice (some ⟨g, 0, none⟩) 2 2]) (by simp [results, Try.results7, go_sem, r0, r1, r2, r3, r4, r5]) rfl ⟨sch 1 (ty4 3 0 sArrow (some ⟨g, 0, none⟩) 2 2 ((ty4 3 0 sList (some ⟨VP.heap.size + 1, 0, none⟩) 1 1 (ty4 3 0 sChar none 0 0 .nil)).app (ty4 2 0 (⟨#[]⟩) none 0 0 .nil))), rfl, ⟨rfl, rfl, trivial, (fun_sim2 (list_sim2 base_sim _ _) base_sim _ _)⟩, HF.out _ ?_⟩; (repeat first | (with_reducible refine Kept.set ?_ (by simp)) | with_reducible exact Kept.refl _ _))
  · subst hs
    have kI := HQI.out
    have kI0 := kI.cel 0 _ rfl
    have kI1 := kI.cel 1 _ rfl
    have kI2 := kI.cel 2 _ rfl
    have kI3 := kI.cel 3 _ rfl
    clear kI
    have HBl := hide (Bx.new VP [.int .i64 3, .int .i64 0, .string sInt, .slice none 0 0] 25)
    go_wp2_with fail
    refine (i_fun1 3 0 sInt none 0 0 3 0 sInt none 0 0 VP.heap.size 0 _ HBl.out.lt HBl.out.cel_cells).mono ?_
    rintro e v1 ⟨g, rfl, bb, hg1, x1⟩
    have HK : Hid (Kept (fun _ => True) VP v1) := (Kept.alloc _ _ _).trans (kt bb)
    rw [World.size_alloc] at hg1
    clear bb
    have hzp := HZP.out
    have HF := hide (fin9 (X := (ty4 3 0 sArrow (some ⟨g, 0, none⟩) 2 2 ((ty4 3 0 sInt none 0 0 .nil).app (ty4 3 0 sInt none 0 0 .nil)))) (HKP.out.trans HK.out) (own_ty (own_s (by omega) x1 (own_app2 own_base own_base (fun c hc => absurd hc List.not_mem_nil)) List.not_mem_nil (by unfold maxLen; omega))) 0)
    have q2 := HQ2.out.kept HK.out trivial
    have r0 := q2.cel 0 _ rfl
    have f0 := q2.live 0
    have r1 := q2.cel 1 _ rfl
    have f1 := q2.live 1
    have r2 := q2.cel 2 _ rfl
    have f2 := q2.live 2
    have r3 := q2.cel 3 _ rfl
    have f3 := q2.live 3
    have r4 := q2.cel 4 _ rfl
    have f4 := q2.live 4
    have r5 := q2.cel 5 _ rfl
    have f5 := q2.live 5
    clear q2
    clear hzp
    go_wp2_with fail
    refine bodyPost_ret (v := .agg #[.int .i64 0, .slice none 0 0, .int .i64 3, .int .i64 0, .string sArrow, .slice (some ⟨g, 0, none⟩) 2 2]) (by simp [results, Try.results7, go_sem, r0, r1, r2, r3, r4, r5]) rfl ⟨sch 0 (ty4 3 0 sArrow (some ⟨g, 0, none⟩) 2 2 ((ty4 3 0 sInt none 0 0 .nil).app (ty4 3 0 sInt none 0 0 .nil))), rfl, ⟨rfl, rfl, trivial, (fun_sim2 base_sim base_sim _ _)⟩, HF.out _ ?_⟩
    repeat first | (with_reducible refine Kept.set ?_ (by simp)) | with_reducible exact Kept.refl _ _
  · obtain ⟨n0, n1, n2, n3, n4, n5, n6, n7, n8, n9, n10, n11, n12, n13⟩ := hs
    have r := HQ2.out
    have r0 := r.cel 0 _ rfl
    have r1 := r.cel 1 _ rfl
    have r2 := r.cel 2 _ rfl
    have r3 := r.cel 3 _ rfl
    have r4 := r.cel 4 _ rfl
    have r5 := r.cel 5 _ rfl
    have f0 := r.live 0
    have f1 := r.live 1
    have f2 := r.live 2
    have f3 := r.live 3
    have f4 := r.live 4
    have f5 := r.live 5
    have HF := hide (fin9 (X := ty4 0 0 ⟨#[]⟩ none 0 0 .nil) HKP.out own_base 0)
    clear r
    go_wp2_with fail
    refine bodyPost_ret (v := .agg #[.int .i64 0, .slice none 0 0, .int .i64 0, .int .i64 0, .string ⟨#[]⟩, .slice none 0 0]) (by simp [results, Try.results7, go_sem, r0, r1, r2, r3, r4, r5]) rfl ⟨sch 0 (ty4 0 0 ⟨#[]⟩ none 0 0 .nil), rfl, Fo.sim.refl _, HF.out _ ?_⟩
    repeat first | (with_reducible refine Kept.set ?_ (by simp)) | with_reducible exact Kept.refl _ _

end Go.Proofs.Ytanjgmmkodlffaa.U
