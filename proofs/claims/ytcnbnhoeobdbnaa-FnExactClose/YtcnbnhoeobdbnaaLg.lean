import Derived.Test.YtcnbnhoeobdbnaaLf
import Derived.Deep.DeepCutAuto
namespace Go.Proofs.Ytcnbnhoeobdbnaa
open Go.RowKit Go.Joins

theorem kt {A B : World} (h : Below A.heap.size A B) : Kept (fun _ => True) A B := Kept.of_below h (fun _ hc _ => hc)

set_option maxRecDepth 100000 in
set_option maxHeartbeats 1000000 in
/-- A type's rows are marked. -/
theorem mark_type (k ix : Int) (nm : ByteArray) (a : Option Addr) (cap K : Nat) (F : Fo) (W : World) (hK : K + 3 * F.size ≤ 4294967296) (hs : F.Sl W (fun c => c < W.heap.size) a cap) (hnd : (blk a F.len ++ F.inn).Nodup) (hl : Live W (blk a F.len ++ F.inn)) :
    Calls Try.prog 19 #[nodeV k ix nm a F.len cap, .int .i64 K] W fun e W' => e = .returned (.int .i64 ((K + 3 * F.size : Nat) : Int)) ∧ Kept (fun c => c ∉ blk a F.len ++ F.inn) W W' := by
  have b0 := below_alloc1 W (.cells #[.int .i64 k, .int .i64 ix, .string nm, .slice a F.len cap] 29)
  have hall := hs.all_of
  have H0 := (mark_row _ F (Nat.lt_succ_self _) (W.alloc (.cells #[.int .i64 k, .int .i64 ix, .string nm, .slice a F.len cap] 29)) a cap K hK ((hs.below b0 (fun _ x => x)).mono (fun c x => by simp; omega)) hnd (hl.below b0 (fun c hc => hall c hc)))
  have HB := hide b0
  obtain ⟨Z, hZ⟩ : ∃ Z, K + 3 * F.size = Z := ⟨_, rfl⟩
  rw [hZ] at H0 ⊢
  have H := hide H0
  unfold nodeV
  clear b0 hs hnd hl hall hZ hK H0
  go_enter Try.func19, Try.ntmps19
  go_wp2_with fail
  refine H.out.mono ?_
  rintro e w1 ⟨rfl, -, k1, -⟩
  have HK1 := hide ((Kept.of_below HB.out (fun _ hc _ => hc) : Kept (fun c => c ∉ blk a F.len ++ F.inn) _ _).trans k1)
  clear k1
  go_wp2_with fail
  go_ret
  exact ⟨rfl, HK1.out⟩

set_option maxHeartbeats 4000000 in
set_option maxRecDepth 100000 in
theorem lawFree (k ix : Int) (nm : ByteArray) (a : Option Addr) (cap : Nat) (ks : Fo) (W : World) (hk : (Lit.int .i64 k).wf = true) (hix : (Lit.int .i64 ix).wf = true) (hnm : nm.size ≤ maxLen) (hs : ks.Sl W (fun b => b < W.heap.size) a cap) :
    Calls Try.prog 5 #[nodeV k ix nm a ks.len cap] W fun e W' => e = .returned (.bool true) ∧ Below W.heap.size W W' := by
  have hszr := sz_row _ ks (Nat.le_refl _)
  have hto := to_row _ ks (Nat.lt_succ_self _)
  unfold nodeV
  have q1 := Box4.new W (.int .i64 k) (.int .i64 ix) (.string nm) (.slice a ks.len cap) 24
  have bA := below_alloc1 W (.cells #[.int .i64 k, .int .i64 ix, .string nm, .slice a ks.len cap] 24)
  have zA : (W.alloc (.cells #[.int .i64 k, .int .i64 ix, .string nm, .slice a ks.len cap] 24)).heap.size = W.heap.size + 1 := by simp
  by_cases h : (1048576 : Int) < ((nm.size + ks.tot : Nat) : Int)
  · go_enter Try.func5, Try.ntmps5
    go_wp2_with fail
    refine (sz_node hszr k ix nm W.heap.size 1048576 _ a cap (by omega) (by omega) (by omega) hnm (hs.below bA (fun _ x => x))).mono ?_
    rintro e w1 ⟨rfl, b1⟩
    rw [szV_lt h]
    go_wp2_with fail
    go_ret
    exact ⟨rfl, bA.trans (b1.mono (by omega))⟩
  · have ht : ks.tot ≤ 1048576 := by omega
    have hsize := ks.size_le
    have hsz : ks.size ≤ 1048576 := by omega
    have hge : ¬ szV 1048576 (nm.size + ks.tot) < 0 := by rw [szV_ge h]; omega
    obtain ⟨Lo, hLo⟩ : ∃ Lo, Lo = idsOf k ix nm ks := ⟨_, rfl⟩
    have hll : Lo.length ≤ 1048576 := by rw [hLo]; have := idsOf_len k ix nm ks; omega
    obtain ⟨n, hn⟩ : ∃ n, n = ks.len := ⟨_, rfl⟩
    have HTo : Hid (∀ (w : World), Below W.heap.size W w → Calls Try.prog 11 #[.agg #[.int .i64 k, .int .i64 ix, .string nm, .slice a n cap]] w fun e w' => ∃ (b : Nat) (G : Fo), e = .returned (.agg #[.int .i64 k, .int .i64 ix, .string nm, .slice (some ⟨b, 0, none⟩) n n]) ∧ G.sim ks ∧ n = G.len ∧ Below w.heap.size w w' ∧
        G.Sl w' (fun c => w.heap.size ≤ c ∧ c < w'.heap.size) (some ⟨b, 0, none⟩) n ∧ (blk (some ⟨b, 0, none⟩) G.len ++ G.inn).Nodup ∧ Live w' (blk (some ⟨b, 0, none⟩) G.len ++ G.inn) ∧ idsOf k ix nm G = Lo ∧ G.size = ks.size) := fun w hb => by
      have h1 := to_node hto k ix nm W.heap.size w a cap hb.size ht (hs.below hb (fun _ h => h))
      rw [← hn] at h1
      refine h1.mono ?_
      rintro e w' ⟨b, G, g1, g2, g3, g4, -, g6, g7⟩
      have gl : n = G.len := by rw [g1.len]; exact hn
      unfold nodeV at g2
      rw [← gl] at g2 g4
      exact ⟨b, G, g2, g1, gl, g3, g4, g6, g7, by rw [idsOf_sim g1]; exact hLo.symm, g1.size⟩
    have HSz := hide (sz_node hszr k ix nm W.heap.size 1048576 (W.alloc (.cells #[.int .i64 k, .int .i64 ix, .string nm, .slice a ks.len cap] 24)) a cap (by omega) (by omega) (by omega) hnm (hs.below bA (fun _ x => x)))
    unfold nodeV at HSz
    generalize szV 1048576 (nm.size + ks.tot) = SZ at HSz hge
    rw [← hn] at HSz q1 bA zA ⊢
    have HQ1 := hide q1
    have HBA := hide bA
    have HZA := hide zA
    clear hLo hn ht h hsize q1 bA zA hs hszr hto
    go_enter Try.func5, Try.ntmps5
    go_wp2_with fail
    refine HSz.out.mono ?_
    rintro e w1 ⟨rfl, b1⟩
    have hzA := HZA.out
    generalize W.alloc (.cells #[.int .i64 k, .int .i64 ix, .string nm, .slice a n cap] 24) = A at *
    have q2 := HQ1.out.below b1 (by omega)
    have B1 := HBA.out.trans (b1.mono (by omega))
    clear HQ1 HBA HZA HSz
    obtain ⟨-, x0, xi, x1, x2, -, -, -, -⟩ := id q2
    have HQ2 := hide q2
    have HqL : Hid (W.heap.size < w1.heap.size) := q2.lt
    clear q2
    go_wp2_with fail
    refine (HTo.out w1 B1).mono ?_
    rintro e w2 ⟨y1, G1, rfl, -, gl1, k2, s1, -, -, o1, -⟩
    have B2 := B1.trans (k2.mono B1.size)
    have HO1 := sfree k ix nm (some ⟨y1, 0, none⟩) n G1 w2 (s1.mono (fun c hc => hc.2))
    rw [o1, ← gl1] at HO1
    unfold nodeV at HO1
    have HO1' := hide HO1
    have q3 := HQ2.out.below k2 HqL.out
    have hz2 := k2.size
    clear HO1 s1 o1 gl1 x0 xi x1 x2 HQ2
    go_wp2_with fail
    refine HO1'.out.mono ?_
    rintro e w3 ⟨v0, rfl, r0, k3⟩
    have B3 := B2.trans (k3.mono B2.size)
    have HR0 := hide r0
    have hz3 := k3.size
    have HLB : Hid (∀ c, v0.ownBlock = some c → w2.heap.size ≤ c ∧ c < w3.heap.size) := r0.lt
    have q4 := q3.below k3 (by have := HqL.out; omega)
    obtain ⟨-, x0, xi, x1, x2, -, -, -, -⟩ := id q4
    have HQ4 := hide q4
    clear r0 HO1' q3 q4
    go_wp2_with fail
    refine (HTo.out w3 B3).mono ?_
    rintro e w4 ⟨y2, G2, rfl, sim2, gl2, k4, s2, nd2, lv2, o2, zz2⟩
    have B4 := B3.trans (k4.mono B3.size)
    have hz4 := k4.size
    have HR1 : Hid (IR w2.heap.size w4 v0 Lo) := HR0.out.kept (kt k4) (fun _ _ => trivial)
    have b5 := below_alloc1 w4 (.cells #[.int .i64 k, .int .i64 ix, .string nm, .slice (some ⟨y2, 0, none⟩) n n] 29)
    have p5 := Box4.new w4 (.int .i64 k) (.int .i64 ix) (.string nm) (.slice (some ⟨y2, 0, none⟩) n n) 29
    have zz5 : (w4.alloc (.cells #[.int .i64 k, .int .i64 ix, .string nm, .slice (some ⟨y2, 0, none⟩) n n] 29)).heap.size = w4.heap.size + 1 := by simp
    have HZ5 := hide zz5
    have HB5 := hide b5
    have HP5 := hide p5
    have HS2 := hide s2
    have HND := hide nd2
    have HLV := hide lv2
    have HSI := hide sim2
    have HGL := hide gl2
    have HZ2 := hide zz2
    have HO2 := hide o2
    have q5 := HQ4.out.below k4 (by have := HqL.out; omega)
    have HQ5 := hide q5
    clear s2 nd2 lv2 o2 sim2 gl2 zz2 x0 xi x1 x2 HQ4 q5 b5 p5 zz5 HR0
    go_wp2_with fail
    generalize w4.alloc (.cells #[.int .i64 k, .int .i64 ix, .string nm, .slice (some ⟨y2, 0, none⟩) n n] 29) = w5 at *
    have z5 := HZ5.out
    have B5 := B4.trans (HB5.out.mono B4.size)
    have HR2 : Hid (IR w2.heap.size w5 v0 Lo) := HR1.out.kept (kt HB5.out) (fun _ _ => trivial)
    have HQ6 := hide (HQ5.out.below HB5.out (by have := HqL.out; omega))
    have HI0 := ifree k ix nm (some ⟨y2, 0, none⟩) n G2 w5 hk hix hnm ((HS2.out.below HB5.out (fun c hc => hc.2)).mono (fun c hc => by omega)) (by rw [HZ2.out]; exact hsz)
    rw [HO2.out, ← HGL.out] at HI0
    unfold nodeV at HI0
    have HI := hide HI0
    clear HI0 HR1 HQ5
    refine HI.out.mono ?_
    rintro e w6 ⟨g0, rfl, rg, k6⟩
    have B6 := B5.trans (k6.mono B5.size)
    have z6 := k6.size
    have b46 := HB5.out.trans (k6.mono (by omega))
    have HR3 : Hid (IR w2.heap.size w6 v0 Lo) := HR2.out.kept (kt k6) (fun _ _ => trivial)
    have HGB : Hid (∀ c, g0.ownBlock = some c → w5.heap.size ≤ c ∧ c < w6.heap.size) := rg.lt
    have HRg := hide rg
    have HQ7 := hide (HQ6.out.below k6 (by have := HqL.out; omega))
    have HP7 := hide (HP5.out.below k6 (by omega))
    have HE1 := hide (eq_ints _ _ g0 v0 Lo w6 HRg.out HR3.out hll)
    clear rg HI HR2 HQ6 HP5
    go_wp2_with fail
    refine HE1.out.mono ?_
    rintro e w7 ⟨rfl, k7⟩
    have B7 := B6.trans (k7.mono B6.size)
    have z7 := k7.size
    have b47 := b46.trans (k7.mono b46.size)
    have HR4 : Hid (IR w2.heap.size w7 v0 Lo) := HR3.out.kept (kt k7) (fun _ _ => trivial)
    have HRg4 : Hid (IR w5.heap.size w7 g0 Lo) := HRg.out.kept (kt k7) (fun _ _ => trivial)
    have HQ8 := HQ7.out.below k7 (by have := HqL.out; omega)
    have HP8 := HP7.out.below k7 (by omega)
    obtain ⟨-, x0, xi, x1, x2, -, -, -, -⟩ := id HQ8
    obtain ⟨-, p0, pi, p1, p2, -, -, -, -⟩ := id HP8
    have hqa := HqL.out
    have HQ8' := hide HQ8
    have HP8' := hide HP8
    clear HR3 HRg HE1 HQ7 HP7 HQ8 HP8
    have hd : Below w7.heap.size w7 w7.drew := (Below.refl _ _).drew
    have HT : Hid (Calls Try.prog 11 #[.agg #[.int .i64 k, .int .i64 ix, .string nm, .slice a n cap]] w7.drew fun e w' => ∃ (b : Nat) (G : Fo), e = .returned (.agg #[.int .i64 k, .int .i64 ix, .string nm, .slice (some ⟨b, 0, none⟩) n n]) ∧ G.sim ks ∧ Hid (n = G.len) ∧ Below w7.heap.size w7.drew w' ∧
        G.Sl w' (fun c => w7.heap.size ≤ c ∧ c < w'.heap.size) (some ⟨b, 0, none⟩) n) := (HTo.out w7.drew (B7.trans (hd.mono B7.size))).mono (fun e w' ⟨b, G, g1, g2, g3, g4, g5, _⟩ => ⟨b, G, g1, g2, g3, g4, g5⟩)
    have HEq : Hid (∀ (w8 : World) (y3 : Nat) (G3 : Fo), Below w7.heap.size w7.drew w8 → G3.sim ks → Hid (n = G3.len) → G3.Sl w8 (fun c => w7.heap.size ≤ c ∧ c < w8.heap.size) (some ⟨y3, 0, none⟩) n →
        Calls Try.prog 13 #[.agg #[.int .i64 k, .int .i64 ix, .string nm, .slice (some ⟨y2, 0, none⟩) n n], .agg #[.int .i64 k, .int .i64 ix, .string nm, .slice (some ⟨y3, 0, none⟩) n n]] w8 fun e w9 => e = .returned (.bool true) ∧ Below w8.heap.size w8 w9) := fun w8 y3 G3 k8 s3 gl3 t3 => by
      have hz8 : w7.heap.size ≤ w8.heap.size := k8.size
      have hb48 : Below w4.heap.size w4 w8 := (b47.trans (hd.mono b47.size)).trans (k8.mono b47.size)
      have HE3 := eq_node (eq_row _ G2 (Nat.lt_succ_self _)) k ix nm G3 w8.heap.size w8 (some ⟨y2, 0, none⟩) (some ⟨y3, 0, none⟩) n n (Nat.le_refl _) (HSI.out.trans s3.symm) ((HS2.out.below hb48 (fun c hc => hc.2)).mono (fun c hc => by have := hb48.size; omega)) (t3.mono (fun _ x => x.2))
      rw [← HGL.out, ← gl3.out] at HE3
      exact HE3
    have k0' := two_boxes HQ8'.out HP8'.out (Below.refl w7.heap.size w7.drew)
    have HB7 := hide B7
    have Hb47 := hide b47
    have Hz := hide (And.intro z5 (And.intro z6 (And.intro z7 (And.intro hz2 (And.intro hz3 hz4)))))
    have HHd := hide hd
    have Hqa := hide hqa
    clear hd B1 B2 B3 B4 B5 B6 B7 b46 b47 b1 k2 k3 k4 k6 k7 hz2 hz3 hz4 z5 z6 z7 hzA hqa hge
    go_wp2_with fail
    go_cut [31] (fun s31 wx => s31 = .bool false ∧ Below w7.heap.size w7 wx)
    case first =>
      go_region_held3 (fun w => w.cell? ⟨W.heap.size, 0, none⟩ = some (.int .i64 k) ∧ w.cell? ⟨W.heap.size, 1, none⟩ = some (.int .i64 ix) ∧ w.cell? ⟨W.heap.size, 2, none⟩ = some (.string nm) ∧ w.cell? ⟨W.heap.size, 3, none⟩ = some (.slice a n cap) ∧
          w.cell? ⟨w4.heap.size, 0, none⟩ = some (.int .i64 k) ∧ w.cell? ⟨w4.heap.size, 1, none⟩ = some (.int .i64 ix) ∧ w.cell? ⟨w4.heap.size, 2, none⟩ = some (.string nm) ∧ w.cell? ⟨w4.heap.size, 3, none⟩ = some (.slice (some ⟨y2, 0, none⟩) n n))
        (first | with_reducible exact k9' | with_reducible exact k8' | with_reducible exact k0')
        (first
          | (go_at_call 11; refine HT.out.mono ?_; rintro e w8 ⟨y3, G3, rfl, s3, gl3, k8, t3⟩; have k8' := two_boxes HQ8'.out HP8'.out k8)
          | (go_at_call 13; refine (HEq.out w8 y3 G3 k8 s3 gl3 t3).mono ?_; rintro e w9 ⟨rfl, k9⟩; have k9' := two_boxes HQ8'.out HP8'.out (k8.trans (k9.mono k8.size))))
      all_goals
        go_wp2_with fail
        go_meet
        case rel => exact ⟨rfl, HHd.out.trans (k8.trans (k9.mono k8.size))⟩
    case rest =>
      obtain ⟨rfl, hcb⟩ := hcut
      rename World => w9
      obtain ⟨z5, z6, z7, hz2, hz3, hz4⟩ := Hz.out
      have hqa := Hqa.out
      have z9 := hcb.size
      have B9 := HB7.out.trans (hcb.mono HB7.out.size)
      have b49 := Hb47.out.trans (hcb.mono Hb47.out.size)
      have HR5 : Hid (IR w2.heap.size w9 v0 Lo) := HR4.out.kept (kt hcb) (fun _ _ => trivial)
      have HRg5 : Hid (IR w5.heap.size w9 g0 Lo) := HRg4.out.kept (kt hcb) (fun _ _ => trivial)
      have q9 := HQ8'.out.below hcb (by omega)
      have p9 := HP8'.out.below hcb (by omega)
      have hall := HS2.out.all_of
      have HAL : Hid (∀ c, c ∈ blk (some ⟨y2, 0, none⟩) G2.len ++ G2.inn → w3.heap.size ≤ c ∧ c < w4.heap.size) := fun c hc => hall c (by rw [← HGL.out] at hc ⊢; exact hc)
      obtain ⟨K1, hK1⟩ : ∃ K1 : Nat, 1 + 3 * G2.size = K1 := ⟨_, rfl⟩
      have HMk : Hid (Calls Try.prog 19 #[.agg #[.int .i64 k, .int .i64 ix, .string nm, .slice (some ⟨y2, 0, none⟩) n n], .int .i64 1] w9 fun e W' => e = .returned (.int .i64 (K1 : Int)) ∧ Kept (fun c => c ∉ blk (some ⟨y2, 0, none⟩) G2.len ++ G2.inn) w9 W') := by
        have hz := HZ2.out
        have h1 := mark_type k ix nm (some ⟨y2, 0, none⟩) n 1 G2 w9 (by omega) ((HS2.out.below b49 (fun c hc => hc.2)).mono (fun c hc => by have := b49.size; omega)) HND.out (HLV.out.below b49 (fun c hc => (HAL.out c hc).2))
        unfold nodeV at h1
        rw [hK1] at h1
        refine Calls.mono ?_ (fun e w' h => h)
        have h2 := HGL.out
        rw [← h2] at h1 ⊢
        exact h1
      have hk0 : ¬ (K1 : Int) < 0 := by omega
      obtain ⟨-, p0, pi, p1, p2, -, -, -, -⟩ := id p9
      have HQ9 := hide q9
      have HB9 := hide B9
      have Hzz := hide (And.intro z9 (And.intro z5 (And.intro z6 (And.intro z7 (And.intro hz2 (And.intro hz3 (And.intro hz4 hqa)))))))
      clear hall hK1 HR4 HRg4 q9 p9 x0 xi x1 x2 hcb B9 b49 z9 z5 z6 z7 hz2 hz3 hz4 hqa k0' Hz Hqa
      go_wp2_with fail
      refine HMk.out.mono ?_
      rintro e w10 ⟨rfl, k10⟩
      obtain ⟨z9, z5, z6, z7, hz2, hz3, hz4, hqa⟩ := Hzz.out
      have z10 := k10.size
      have HR6 : Hid (IR w2.heap.size w10 v0 Lo) := HR5.out.kept k10 (fun c hc hm => by have h1 := (HLB.out c hc).2; have h2 := (HAL.out c hm).1; omega)
      have HRg6 : Hid (IR w5.heap.size w10 g0 Lo) := HRg5.out.kept k10 (fun c hc hm => by have h1 := (HGB.out c hc).1; have h2 := (HAL.out c hm).2; omega)
      have B10 : Below W.heap.size W w10 := Below.kept HB9.out k10 (fun c hc hm => by have h2 := (HAL.out c hm).1; omega) (Nat.le_refl _)
      have HQ10 := hide (HQ9.out.kept k10 (fun hm => by have h2 := (HAL.out _ hm).1; omega))
      have HE3 := hide (eq_ints _ _ g0 v0 Lo w10 HRg6.out HR6.out hll)
      have HB10 := hide B10
      have HK10 := hide (And.intro z10 (And.intro z9 (And.intro z5 (And.intro z6 (And.intro z7 (And.intro hz2 (And.intro hz3 (And.intro hz4 hqa))))))))
      clear HR5 HRg5 HMk k10 p0 pi p1 p2 HQ9 B10 z10 z9 z5 z6 z7 hz2 hz3 hz4 hqa Hzz
      go_wp2_with fail
      refine HE3.out.mono ?_
      rintro e w11 ⟨rfl, k11⟩
      have HR7 : Hid (IR w2.heap.size w11 v0 Lo) := HR6.out.kept (kt k11) (fun _ _ => trivial)
      have HRg7 : Hid (IR w5.heap.size w11 g0 Lo) := HRg6.out.kept (kt k11) (fun _ _ => trivial)
      have HB11 := hide (HB10.out.trans (k11.mono HB10.out.size))
      have HQ11 := hide (HQ10.out.below k11 (by have := HK10.out; omega))
      have HM := hide (mark_ints _ g0 Lo w11 HRg7.out hll)
      obtain ⟨K2, hK2⟩ : ∃ K2 : Nat, 1 + Lo.length = K2 := ⟨_, rfl⟩
      rw [hK2] at HM
      have hk2 : ¬ (K2 : Int) < 0 := by omega
      have HK2 := hide hK2
      have HZ11 := hide k11.size
      clear HR6 HRg6 HE3 hK2 HQ10 k11
      go_wp2_with fail
      refine HM.out.mono ?_
      rintro e w12 ⟨rfl, rm, k12⟩
      have HRm := hide rm
      have hz12 := k12.size
      have HR8 : Hid (IR w2.heap.size w12 v0 Lo) := HR7.out.kept k12 (fun c hc hm => by have h1 := (HLB.out c hc).2; have h2 := (HGB.out c hm).1; have := HK10.out; omega)
      have HB12 : Hid (Below W.heap.size W w12) := Below.kept HB11.out k12 (fun c hc hm => by have h2 := (HGB.out c hm).1; have := HK10.out; omega) (Nat.le_refl _)
      have HQ12 := hide (HQ11.out.kept k12 (fun hm => by have h2 := (HGB.out _ hm).1; have := HK10.out; omega))
      have HH1 := hide (held_ints _ g0 Lo.length w12 HRm.out hll)
      rw [HK2.out] at HH1
      have HZ12 := hide hz12
      clear rm k12 HR7 HRg7 HM HQ11 hz12
      go_wp2_with fail
      refine HH1.out.mono ?_
      rintro e w13 ⟨rfl, k13⟩
      have HR9 : Hid (IR w2.heap.size w13 v0 Lo) := HR8.out.kept (kt k13) (fun _ _ => trivial)
      have HRm2 : Hid (IR w5.heap.size w13 g0 (mks Lo.length)) := HRm.out.kept (kt k13) (fun _ _ => trivial)
      have hB13 := HB12.out.trans (k13.mono HB12.out.size)
      have q13 := HQ12.out.below k13 (by have := HK10.out; have := HZ11.out; have := HZ12.out; omega)
      have HZ13 := hide k13.size
      have HTo13 := hide (HTo.out w13 hB13)
      have HB13 := hide hB13
      obtain ⟨-, x0, xi, x1, x2, -, -, -, -⟩ := id q13
      clear HR8 HRm HH1 q13 HQ12 k13 hB13
      go_wp2_with fail
      refine HTo13.out.mono ?_
      rintro e w14 ⟨y4, G4, rfl, -, gl4, k14, s4, -, -, o4, zz4⟩
      have B14 := HB13.out.trans (k14.mono HB13.out.size)
      have HR10 : Hid (IR w2.heap.size w14 v0 Lo) := HR9.out.kept (kt k14) (fun _ _ => trivial)
      have HRm3 : Hid (IR w5.heap.size w14 g0 (mks Lo.length)) := HRm2.out.kept (kt k14) (fun _ _ => trivial)
      have HO4 := ifree k ix nm (some ⟨y4, 0, none⟩) n G4 w14 hk hix hnm (s4.mono (fun c hc => hc.2)) (by rw [zz4]; exact hsz)
      rw [o4, ← gl4] at HO4
      unfold nodeV at HO4
      have HO4' := hide HO4
      have HB14 := hide B14
      clear HR9 HRm2 s4 o4 gl4 zz4 HO4 x0 xi x1 x2 B14 k14
      go_wp2_with fail
      refine HO4'.out.mono ?_
      rintro e w15 ⟨h0, rfl, rh, k15⟩
      have HB15 := hide (HB14.out.trans (k15.mono HB14.out.size))
      have HR11 : Hid (IR w2.heap.size w15 v0 Lo) := HR10.out.kept (kt k15) (fun _ _ => trivial)
      have HRm4 : Hid (IR w5.heap.size w15 g0 (mks Lo.length)) := HRm3.out.kept (kt k15) (fun _ _ => trivial)
      have HE5 := hide (eq_ints _ _ h0 v0 Lo w15 rh HR11.out hll)
      clear HR10 HRm3 rh HO4' k15
      go_wp2_with fail
      refine HE5.out.mono ?_
      rintro e w16 ⟨rfl, k16⟩
      have HB16 := hide (HB15.out.trans (k16.mono HB15.out.size))
      have HRm5 : Hid (IR w5.heap.size w16 g0 (mks Lo.length)) := HRm4.out.kept (kt k16) (fun _ _ => trivial)
      have HH2 := hide (held_ints _ g0 Lo.length w16 HRm5.out hll)
      rw [HK2.out] at HH2
      clear HR11 HRm4 HE5 k16
      go_wp2_with fail
      refine HH2.out.mono ?_
      rintro e w17 ⟨rfl, k17⟩
      have HB17 := hide (HB16.out.trans (k17.mono HB16.out.size))
      clear k17
      go_wp2_with fail
      go_ret
      exact ⟨rfl, HB17.out⟩

end Go.Proofs.Ytcnbnhoeobdbnaa
