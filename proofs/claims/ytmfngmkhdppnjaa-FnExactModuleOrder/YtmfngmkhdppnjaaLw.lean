import Derived.Test.YtmfngmkhdppnjaaSc
namespace Go.Proofs.Ytmfngmkhdppnjaa
open Go.RowKit Go.Joins

theorem run_len (D : Nat → List Nat) (n : Nat) : ∀ (f : Nat) (out : List Nat), (run D n f out).length ≤ out.length + f
  | 0, out => Nat.le_refl _
  | f + 1, out => by
    rw [run]
    split
    · omega
    · next i _ =>
      have := run_len D n f (out ++ [i])
      simp at this
      omega

theorem ordF_len (ms : List Md) : (ordF ms).length ≤ ms.length := by
  unfold ordF
  split
  · split
    · simp
    · have := run_len (dep ms) ms.length ms.length []
      simpa using this
  · simp

theorem kt {A B : World} (h : Below A.heap.size A B) : Kept (fun _ => True) A B := Kept.of_below h (fun _ hc _ => hc)

theorem sl_of {A B : World} {W : World} {G : Fo} {a : Option Addr} {cap : Nat} (h : G.Sl W (fun c => A.heap.size ≤ c ∧ c < B.heap.size) a cap) (hb : B.heap.size ≤ W.heap.size) : LS W W.heap.size G a cap := Fo.Sl.mono (fun c hc => by omega) h

set_option maxHeartbeats 4000000 in
set_option maxRecDepth 100000 in
theorem lawOrder (F : Fo) (a : Option Addr) (cap n : Nat) (W : World) (hs : F.Sl W (fun b => b < W.heap.size) a cap) (hlen : n = F.len) :
    Calls Try.prog 3 #[.slice a n cap] W fun e W' => e = .returned (.bool true) ∧ Below W.heap.size W W' := by
  have HS := hide hs
  have HL := hide hlen
  have HSz := hide (sz_row F.size F (Nat.le_refl _) W.heap.size 1048576 W a cap (Nat.le_refl _) (by omega) (by omega) hs)
  rw [← hlen] at HSz
  clear hs hlen
  by_cases ht : (1048576 : Int) < (F.tot : Int)
  · have hv : szV 1048576 F.tot = -1 := szV_lt ht
    rw [hv] at HSz
    go_enter Try.func3, Try.ntmps3
    go_wp2_with fail
    refine HSz.out.mono ?_
    rintro e w1 ⟨rfl, b1⟩
    go_wp2_with fail
    go_ret
    exact ⟨rfl, b1⟩
  · have ht' : F.tot ≤ 1048576 := by omega
    have hv : szV 1048576 F.tot = 1048576 - (F.tot : Int) := szV_ge (by omega)
    rw [hv] at HSz
    have hge : ¬ (1048576 : Int) - (F.tot : Int) < 0 := by omega
    have HT := hide ht'
    have hn : n ≤ 1048576 := by rw [HL.out]; have h1 := F.len_le; have h2 := F.size_le; omega
    have hsz : F.size ≤ 1048576 := by have := F.size_le; omega
    clear ht hv ht'
    obtain ⟨Lo, hLo⟩ : ∃ Lo, Lo = ordF F.md := ⟨_, rfl⟩
    have hll : Lo.length ≤ 1048576 := by
      rw [hLo]
      have := ordF_len F.md
      rw [Fo.md_length, ← HL.out] at this
      omega
    have HLo := hide hLo
    clear hLo
    have HTo : Hid (∀ (w : World), Below W.heap.size W w → Calls Try.prog 6 #[.slice a n cap] w fun e w' => ∃ (b : Nat) (G : Fo), e = .returned (.slice (some ⟨b, 0, none⟩) n n) ∧ G.sim F ∧ n = G.len ∧ Below w.heap.size w w' ∧
        G.Sl w' (fun c => w.heap.size ≤ c ∧ c < w'.heap.size) (some ⟨b, 0, none⟩) n ∧ (blk (some ⟨b, 0, none⟩) G.len ++ G.inn).Nodup ∧ Live w' (blk (some ⟨b, 0, none⟩) G.len ++ G.inn) ∧ G.tot ≤ 1048576 ∧ ordF G.md = Lo ∧ G.size = F.size) := fun w hb => by
      have h1 := to_row (F.size + 1) F (by omega) W.heap.size w a cap hb.size HT.out (HS.out.below hb (fun _ h => h))
      rw [← HL.out] at h1
      refine h1.mono ?_
      rintro e w' ⟨b, G, g1, g2, g3, g4, -, g6, g7⟩
      have gl : n = G.len := by rw [g1.len]; exact HL.out
      rw [← gl] at g2 g4
      exact ⟨b, G, g2, g1, gl, g3, g4, g6, g7, by rw [g1.tot]; exact HT.out, by rw [g1.md]; exact HLo.out.symm, g1.size⟩
    go_enter Try.func3, Try.ntmps3
    go_wp2_with fail
    refine HSz.out.mono ?_
    rintro e w1 ⟨rfl, b1⟩
    go_wp2_with fail
    refine (HTo.out w1 b1).mono ?_
    rintro e w2 ⟨x1, G1, rfl, -, gl1, k2, s1, -, -, t1, o1, -⟩
    have B2 := b1.trans (k2.mono b1.size)
    have HO1 := hide (sOrder G1 (some ⟨x1, 0, none⟩) n n w2 (sl_of s1 (Nat.le_refl _)) t1 gl1)
    rw [o1] at HO1
    clear s1 t1 o1 gl1
    go_wp2_with fail
    refine HO1.out.mono ?_
    rintro e w3 ⟨v0, rfl, r0, k3⟩
    have B3 := B2.trans (k3.mono B2.size)
    have HR0 := hide r0
    have z3 := k3.size
    have hl0 : ∀ c, v0.ownBlock = some c → w2.heap.size ≤ c ∧ c < w3.heap.size := r0.lt
    have HLB := hide hl0
    clear r0 hl0 HO1 k2
    go_wp2_with fail
    refine (HTo.out w3 B3).mono ?_
    rintro e w4 ⟨x2, G2, rfl, sim2, gl2, k4, s2, nd2, lv2, t2, o2, zz2⟩
    have B4 := B3.trans (k4.mono B3.size)
    have z4 := k4.size
    have HR1 : Hid (IR w2.heap.size w4 v0 Lo) := HR0.out.kept (Kept.of_below k4 (fun c hc _ => hc) : Kept (fun _ => True) w3 w4) (fun _ _ => trivial)
    have HO2 := hide (iOrder G2 (some ⟨x2, 0, none⟩) n n w4 (sl_of s2 (Nat.le_refl _)) t2 gl2)
    rw [o2] at HO2
    have HS2 := hide s2
    have HND := hide nd2
    have HLV := hide lv2
    have HSI := hide sim2
    have HGL := hide gl2
    have HZ2 := hide zz2
    clear s2 nd2 lv2 t2 o2 sim2 gl2 zz2
    go_wp2_with fail
    refine HO2.out.mono ?_
    rintro e w5 ⟨g0, rfl, rg, k5⟩
    have B5 := B4.trans (k5.mono B4.size)
    have z5 := k5.size
    have HR2 : Hid (IR w2.heap.size w5 v0 Lo) := HR1.out.kept (kt k5) (fun _ _ => trivial)
    have HRg := hide rg
    have HGB : Hid (∀ c, g0.ownBlock = some c → w4.heap.size ≤ c ∧ c < w5.heap.size) := rg.lt
    clear rg HO2 HR1 HR0
    have HE1 := hide (eq_ints _ _ g0 v0 Lo w5 HRg.out HR2.out hll)
    go_wp2_with fail
    refine HE1.out.mono ?_
    rintro e w6 ⟨rfl, k6⟩
    have B6 := B5.trans (k6.mono B5.size)
    have b46 := k5.trans (k6.mono z5)
    have z6 := k6.size
    have HR3 : Hid (IR w2.heap.size w6 v0 Lo) := HR2.out.kept (kt k6) (fun _ _ => trivial)
    have HRg3 : Hid (IR w4.heap.size w6 g0 Lo) := HRg.out.kept (kt k6) (fun _ _ => trivial)
    clear HR2 HRg HE1
    go_wp2_with fail
    refine (HTo.out w6 B6).mono ?_
    rintro e w7 ⟨x3, G3, rfl, sim3, gl3, k7, s3, -, -, -, -, -⟩
    have B7 := B6.trans (k7.mono B6.size)
    have b47 := b46.trans (k7.mono b46.size)
    have z7 := k7.size
    have HR4 : Hid (IR w2.heap.size w7 v0 Lo) := HR3.out.kept (kt k7) (fun _ _ => trivial)
    have HRg4 : Hid (IR w4.heap.size w7 g0 Lo) := HRg3.out.kept (kt k7) (fun _ _ => trivial)
    have HE2 : Hid (Calls Try.prog 9 #[.slice (some ⟨x2, 0, none⟩) n n, .slice (some ⟨x3, 0, none⟩) n n] w7 fun e W' => e = .returned (.bool true) ∧ Below w7.heap.size w7 W') := by
      have h1 := eq_row (G2.size + 1) G2 (by omega) G3 w7.heap.size w7 (some ⟨x2, 0, none⟩) (some ⟨x3, 0, none⟩) n n (Nat.le_refl _) (HSI.out.trans sim3.symm)
        ((HS2.out.below b47 (fun c hc => hc.2)).mono (fun c hc => by omega)) (s3.mono (fun c hc => hc.2))
      rw [← HGL.out, ← gl3] at h1
      exact h1
    clear HR3 HRg3 s3 sim3 gl3
    go_wp2_with fail
    refine HE2.out.mono ?_
    rintro e w8 ⟨rfl, k8⟩
    have B8 := B7.trans (k8.mono B7.size)
    have b48 := b47.trans (k8.mono b47.size)
    have z8 := k8.size
    have HR5 : Hid (IR w2.heap.size w8 v0 Lo) := HR4.out.kept (kt k8) (fun _ _ => trivial)
    have HRg5 : Hid (IR w4.heap.size w8 g0 Lo) := HRg4.out.kept (kt k8) (fun _ _ => trivial)
    have hall := HS2.out.all_of
    have HAL : Hid (∀ c, c ∈ blk (some ⟨x2, 0, none⟩) G2.len ++ G2.inn → w3.heap.size ≤ c ∧ c < w4.heap.size) := fun c hc => hall c hc
    obtain ⟨K1, hK1⟩ : ∃ K1 : Nat, 1 + 2 * G2.size = K1 := ⟨_, rfl⟩
    have HMk : Hid (Calls Try.prog 10 #[.slice (some ⟨x2, 0, none⟩) n n, .int .i64 1] w8 fun e W' => e = .returned (.int .i64 (K1 : Int)) ∧ Kept (fun c => c ∉ blk (some ⟨x2, 0, none⟩) G2.len ++ G2.inn) w8 W') := by
      have hz2 := HZ2.out
      have h1 := mark_row (G2.size + 1) G2 (by omega) w8 (some ⟨x2, 0, none⟩) n 1 (by omega) ((HS2.out.below b48 (fun c hc => hc.2)).mono (fun c hc => by omega)) HND.out (HLV.out.below b48 (fun c hc => (HAL.out c hc).2))
      rw [← HGL.out, hK1] at h1
      refine h1.mono ?_
      rintro e w' ⟨g1, -, g3, -⟩
      rw [HGL.out] at g3
      exact ⟨g1, g3⟩
    have hk0 : ¬ (K1 : Int) < 0 := by omega
    clear hall hK1 HR4 HRg4 HE2
    go_wp2_with fail
    refine HMk.out.mono ?_
    rintro e w9 ⟨rfl, k9⟩
    have z9 := k9.size
    have HR6 : Hid (IR w2.heap.size w9 v0 Lo) := HR5.out.kept k9 (fun c hc hm => by have h1 := (HLB.out c hc).2; have h2 := (HAL.out c hm).1; omega)
    have HRg6 : Hid (IR w4.heap.size w9 g0 Lo) := HRg5.out.kept k9 (fun c hc hm => by have h1 := (HGB.out c hc).1; have h2 := (HAL.out c hm).2; omega)
    have B9 : Below W.heap.size W w9 := Below.kept B8 k9 (fun c hc hm => by have h2 := (HAL.out c hm).1; have := B3.size; omega) (Nat.le_refl _)
    have HE3 := hide (eq_ints _ _ g0 v0 Lo w9 HRg6.out HR6.out hll)
    clear HR5 HRg5 HMk k9
    go_wp2_with fail
    refine HE3.out.mono ?_
    rintro e w10 ⟨rfl, k10⟩
    have B10 := B9.trans (k10.mono B9.size)
    have z10 := k10.size
    have HR7 : Hid (IR w2.heap.size w10 v0 Lo) := HR6.out.kept (kt k10) (fun _ _ => trivial)
    have HRg7 : Hid (IR w4.heap.size w10 g0 Lo) := HRg6.out.kept (kt k10) (fun _ _ => trivial)
    have HM := hide (mark_ints _ g0 Lo w10 HRg7.out hll)
    obtain ⟨K2, hK2⟩ : ∃ K2 : Nat, 1 + Lo.length = K2 := ⟨_, rfl⟩
    rw [hK2] at HM
    have hk2 : ¬ (K2 : Int) < 0 := by omega
    have HK2 := hide hK2
    clear HR6 HRg6 HE3 hK2
    go_wp2_with fail
    refine HM.out.mono ?_
    rintro e w11 ⟨rfl, rm, k11⟩
    have z11 := k11.size
    have HRm := hide rm
    have HR8 : Hid (IR w2.heap.size w11 v0 Lo) := HR7.out.kept k11 (fun c hc hm => by have h1 := (HLB.out c hc).2; have h2 := (HGB.out c hm).1; omega)
    have B11 : Below W.heap.size W w11 := Below.kept B10 k11 (fun c hc hm => by have h2 := (HGB.out c hm).1; have := B4.size; omega) (Nat.le_refl _)
    have HH1 := hide (held_ints _ g0 Lo.length w11 HRm.out hll)
    rw [HK2.out] at HH1
    clear rm k11 HR7 HRg7 HM
    go_wp2_with fail
    refine HH1.out.mono ?_
    rintro e w12 ⟨rfl, k12⟩
    have B12 := B11.trans (k12.mono B11.size)
    have z12 := k12.size
    have HR9 : Hid (IR w2.heap.size w12 v0 Lo) := HR8.out.kept (kt k12) (fun _ _ => trivial)
    have HRm2 : Hid (IR w4.heap.size w12 g0 (mks Lo.length)) := HRm.out.kept (kt k12) (fun _ _ => trivial)
    clear HR8 HRm HH1
    go_wp2_with fail
    refine (HTo.out w12 B12).mono ?_
    rintro e w13 ⟨x4, G4, rfl, -, gl4, k13, s4, -, -, t4, o4, -⟩
    have B13 := B12.trans (k13.mono B12.size)
    have z13 := k13.size
    have HR10 : Hid (IR w2.heap.size w13 v0 Lo) := HR9.out.kept (kt k13) (fun _ _ => trivial)
    have HRm3 : Hid (IR w4.heap.size w13 g0 (mks Lo.length)) := HRm2.out.kept (kt k13) (fun _ _ => trivial)
    have HO4 := hide (iOrder G4 (some ⟨x4, 0, none⟩) n n w13 (sl_of s4 (Nat.le_refl _)) t4 gl4)
    rw [o4] at HO4
    clear HR9 HRm2 s4 t4 o4 gl4
    go_wp2_with fail
    refine HO4.out.mono ?_
    rintro e w14 ⟨h0, rfl, rh, k14⟩
    have B14 := B13.trans (k14.mono B13.size)
    have z14 := k14.size
    have HR11 : Hid (IR w2.heap.size w14 v0 Lo) := HR10.out.kept (kt k14) (fun _ _ => trivial)
    have HRm4 : Hid (IR w4.heap.size w14 g0 (mks Lo.length)) := HRm3.out.kept (kt k14) (fun _ _ => trivial)
    have HE5 := hide (eq_ints _ _ h0 v0 Lo w14 rh HR11.out hll)
    clear HR10 HRm3 rh HO4
    go_wp2_with fail
    refine HE5.out.mono ?_
    rintro e w15 ⟨rfl, k15⟩
    have B15 := B14.trans (k15.mono B14.size)
    have HRm5 : Hid (IR w4.heap.size w15 g0 (mks Lo.length)) := HRm4.out.kept (kt k15) (fun _ _ => trivial)
    have HH2 := hide (held_ints _ g0 Lo.length w15 HRm5.out hll)
    rw [HK2.out] at HH2
    clear HR11 HRm4 HE5
    go_wp2_with fail
    refine HH2.out.mono ?_
    rintro e w16 ⟨rfl, k16⟩
    have B16 := B15.trans (k16.mono B15.size)
    go_wp2_with fail
    go_ret
    exact ⟨rfl, B16⟩
end Go.Proofs.Ytmfngmkhdppnjaa
