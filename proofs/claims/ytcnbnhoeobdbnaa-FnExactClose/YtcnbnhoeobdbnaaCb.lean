import Derived.Test.YtcnbnhoeobdbnaaCa
import Derived.Test.YtcnbnhoeobdbnaaPu
import Derived.Deep.RegionHeld3
import Derived.Deep.RegionLaw
import Derived.Deep.DeepCutAuto
namespace Go.Proofs.Ytcnbnhoeobdbnaa
open Go.RowKit Go.Joins

theorem run_makeMap118 (w : World) : (Instr.makeMap 118 none).run Try.prog w = .ok (.map (some w.heap.size)) (w.alloc (.map #[] 0)) := run_makeMap ..

theorem PdR.sl {B : Nat} {w : World} {v : Value} {L : List Pd} (h : PdR B w v L) : ∃ a cap, v = .slice a L.length cap := by
  rcases h.2 with ⟨rfl, h3⟩ | ⟨b, cap, cur, rfl, -⟩
  · exact ⟨none, 0, by rw [h3]⟩
  · exact ⟨_, cap, rfl⟩

theorem PdR.mono {B B' : Nat} {w : World} {v : Value} {L : List Pd} (h : PdR B w v L) (hb : B' ≤ B) : PdR B' w v L := by
  refine ⟨h.1, ?_⟩
  rcases h.2 with h2 | ⟨b, cap, cur, e, hb', rest⟩
  · exact .inl h2
  · exact .inr ⟨b, cap, cur, e, by omega, rest⟩

/-- What Close answers. -/
def ClP (w : World) (c : Int) (P : List Pd) (T : Fo) (e : Ending) (W' : World) : Prop :=
  ∃ (d : Nd) (va : Option Addr) (vc : Nat), e = .returned (schV c va P.length vc d.k d.ix d.nm d.a d.ks.len d.cap) ∧ d.fo.sim T ∧ d.Ok W' (fun c => w.heap.size ≤ c ∧ c < W'.heap.size) ∧
    (blk d.a d.ks.len ++ d.ks.inn).Nodup ∧ Live W' (blk d.a d.ks.len ++ d.ks.inn) ∧ PdR w.heap.size W' (.slice va P.length vc) P ∧ (∀ c, (Value.slice va P.length vc).ownBlock = some c → c ∉ blk d.a d.ks.len ++ d.ks.inn) ∧ Below w.heap.size w W'

/-- The variables that get places. -/
noncomputable def clL (k ix : Int) (nm : ByteArray) (ks : Fo) (K : List Int) : List Int := idF K (idsOf k ix nm ks)

/-- The type. -/
noncomputable def clT (k ix : Int) (nm : ByteArray) (ks : Fo) (K : List Int) : Fo := if fltB k ix nm ks = true then zeroT else (Fo.cons k ix nm none 0 ks .nil).wc (clL k ix nm ks K)

theorem clL_len (k ix : Int) (nm : ByteArray) (ks : Fo) (K : List Int) : (clL k ix nm ks K).length ≤ 20000 := Nat.le_trans (idF_len _ _) (idsOf_len _ _ _ _)

theorem wc_sim {L : List Int} : ∀ {F G : Fo}, F.sim G → (F.wc L).sim (G.wc L)
  | .nil, .nil, _ => trivial
  | .cons k _ _ _ _ _ _, .cons _ _ _ _ _ _ _, ⟨a, z, n, b, e⟩ => by
    subst a z n
    simp only [Fo.wc]
    by_cases hk : k = 3
    · simp only [if_pos hk]; exact ⟨rfl, rfl, rfl, wc_sim b, wc_sim e⟩
    · simp only [if_neg hk]; exact ⟨rfl, rfl, rfl, trivial, wc_sim e⟩
  | .nil, .cons _ _ _ _ _ _ _, h => h.elim
  | .cons _ _ _ _ _ _ _, .nil, h => h.elim

/-- What the second loop knows. -/
structure CbI (w7 wr : World) (M : Nat) (L : List Int) (i : Nat) : Prop where
  pm : PM wr M i L
  kp : Kept (fun c => c ≠ M) w7 wr

set_option maxHeartbeats 4000000 in
set_option maxRecDepth 100000 in
theorem iclose_bad (k ix : Int) (nm : ByteArray) (a : Option Addr) (cap : Nat) (ks : Fo) (pa : Option Addr) (pc : Nat) (P : List Pd) (la : Option Addr) (lc : Nat) (K : List Int) (w : World)
    (hk : (Lit.int .i64 k).wf = true) (hix : (Lit.int .i64 ix).wf = true) (hnm : nm.size ≤ maxLen) (hs : ks.Sl w (fun b => b < w.heap.size) a cap) (hsz : nm.size + ks.tot ≤ 1048576) (hflt : fltB k ix nm ks = true) :
    Calls Try.prog 33 #[nodeV k ix nm a ks.len cap, .slice pa P.length pc, .slice la K.length lc] w fun e W' => ClP w 0 [] zeroT e W' := by
  have hst := ks.size_le
  unfold nodeV
  obtain ⟨W2, hW2⟩ : ∃ W2, (w.alloc (.cells #[.int .i64 k, .int .i64 ix, .string nm, .slice a ks.len cap] 29)).alloc (.cells #[.int .i64 0, .slice none 0 0, .int .i64 0, .int .i64 0, .string ⟨#[]⟩, .slice none 0 0] 51) = W2 := ⟨_, rfl⟩
  have b2 : Below w.heap.size w W2 := by rw [← hW2]; exact below_alloc2 _ _ _
  have z2 : W2.heap.size = w.heap.size + 1 + 1 := by rw [← hW2]; simp
  have q1 : Box4 W2 w.heap.size (.int .i64 k) (.int .i64 ix) (.string nm) (.slice a ks.len cap) := by rw [← hW2]; exact (Box4.new _ _ _ _ _ _).alloc _
  have q4 : Box6 W2 (w.heap.size + 1) (.int .i64 0) (.slice none 0 0) (.int .i64 0) (.int .i64 0) (.string ⟨#[]⟩) (.slice none 0 0) := by
    rw [← hW2]
    have := Box6.new (w.alloc (.cells #[.int .i64 k, .int .i64 ix, .string nm, .slice a ks.len cap] 29)) (.int .i64 0) (.slice none 0 0) (.int .i64 0) (.int .i64 0) (.string ⟨#[]⟩) (.slice none 0 0) 51
    rwa [World.size_alloc] at this
  have HF := hide (ifault k ix nm a cap ks W2 hk hix hnm ((hs.below b2 (fun _ x => x)).mono (fun b x => by omega)) (by omega))
  unfold nodeV at HF
  rw [hflt] at HF
  have HB2 := hide b2
  have HZ2 := hide z2
  have HQ4 := hide q4
  obtain ⟨-, x0, xi, x1, x2, -, -, -, -⟩ := id q1
  clear b2 z2 q1 q4 hs hflt
  go_enter Try.func33, Try.ntmps33
  go_upto_region 1 with fail
  clear hW2
  go_wp2_with fail
  refine HF.out.mono ?_
  rintro e w1 ⟨rfl, b1⟩
  obtain ⟨-, y0, y1, y2, y3, y4, y5, g0, g1, g2, g3, g4, g5⟩ := HQ4.out.below b1
  have HB1 := hide b1
  clear b1
  go_wp2_with fail
  have hz := HZ2.out
  have hz1 := HB1.out.size
  refine bodyPost_ret (v := .agg #[.int .i64 0, .slice none 0 0, .int .i64 0, .int .i64 0, .string ⟨#[]⟩, .slice none 0 0]) (by simp [results, Try.results33, go_sem, y0, y1, y2, y3, y4, y5]) rfl ⟨⟨0, 0, ⟨#[]⟩, none, 0, .nil⟩, none, 0, rfl, ⟨rfl, rfl, rfl, trivial, trivial⟩, ⟨(by show (Lit.int .i64 0).wf = true; decide), (by show (Lit.int .i64 0).wf = true; decide), (by show (0 : Nat) ≤ maxLen; exact Nat.zero_le _), ⟨Nat.le_refl _, Nat.zero_le _, fun h => by simp [Fo.len] at h⟩⟩, by simp [blk, Fo.inn], fun c hc => (by simp [blk, Fo.inn] at hc), PdR.nil _ _, fun c hc => (by cases hc), ?_⟩
  refine ((((((HB2.out.trans (HB1.out.mono (by omega))).setCell ?_ _).setCell ?_ _).setCell ?_ _).setCell ?_ _).setCell ?_ _).setCell ?_ _ <;> simp <;> omega

set_option maxHeartbeats 8000000 in
set_option maxRecDepth 100000 in
/-- The program's Close, where the type has no fault. -/
theorem iclose_good (k ix : Int) (nm : ByteArray) (a : Option Addr) (cap : Nat) (ks : Fo) (pa : Option Addr) (pc : Nat) (P : List Pd) (la : Option Addr) (lc : Nat) (K : List Int) (w : World)
    (hk : (Lit.int .i64 k).wf = true) (hix : (Lit.int .i64 ix).wf = true) (hnm : nm.size ≤ maxLen) (hs : ks.Sl w (fun b => b < w.heap.size) a cap) (hsz : nm.size + ks.tot ≤ 1048576) (hflt : fltB k ix nm ks = false)
    (hP : PSl w w.heap.size pa pc P) (hPn : pns P ≤ 1048576) (hPl : P.length ≤ 1048576) (hK : IS w w.heap.size la lc K) (hKl : K.length ≤ 1048576) :
    Calls Try.prog 33 #[nodeV k ix nm a ks.len cap, .slice pa P.length pc, .slice la K.length lc] w fun e W' => ClP w ((clL k ix nm ks K).length : Nat) (pls (clL k ix nm ks K) P) ((Fo.cons k ix nm none 0 ks .nil).wc (clL k ix nm ks K)) e W' := by
  have hst := ks.size_le
  have hIN := idsOf_nodup k ix nm ks
  have hIL := idsOf_len k ix nm ks
  have hIW := idsOf_wf (k := k) (nm := nm) hix hs
  unfold nodeV clL
  obtain ⟨FI, hFI⟩ : ∃ FI, FI = idsOf k ix nm ks := ⟨_, rfl⟩
  rw [← hFI] at hIN hIL hIW ⊢
  obtain ⟨PL, hPL⟩ : ∃ PL, PL = pls (idF K FI) P := ⟨_, rfl⟩
  rw [← hPL]
  obtain ⟨cn, hcn⟩ : ∃ cn, cn = (idF K FI).length := ⟨_, rfl⟩
  rw [← hcn]
  have HPL := hide hPL
  have HCN := hide hcn
  clear hPL hcn
  obtain ⟨n, hn⟩ : ∃ n, n = K.length := ⟨_, rfl⟩
  rw [← hn]
  obtain ⟨q, hq⟩ : ∃ q, q = FI.length := ⟨_, rfl⟩
  have hqb : q ≤ 20000 := by omega
  have hnb : n ≤ 1048576 := by omega
  obtain ⟨pn, hpn⟩ : ∃ pn, pn = P.length := ⟨_, rfl⟩
  rw [← hpn]
  obtain ⟨W2, hW2⟩ : ∃ W2, (w.alloc (.cells #[.int .i64 k, .int .i64 ix, .string nm, .slice a ks.len cap] 29)).alloc (.cells #[.int .i64 0, .slice none 0 0, .int .i64 0, .int .i64 0, .string ⟨#[]⟩, .slice none 0 0] 51) = W2 := ⟨_, rfl⟩
  have b2 : Below w.heap.size w W2 := by rw [← hW2]; exact below_alloc2 _ _ _
  have z2 : W2.heap.size = w.heap.size + 1 + 1 := by rw [← hW2]; simp
  have q1 : Box4 W2 w.heap.size (.int .i64 k) (.int .i64 ix) (.string nm) (.slice a ks.len cap) := by rw [← hW2]; exact (Box4.new _ _ _ _ _ _).alloc _
  have q4 : Box6 W2 (w.heap.size + 1) (.int .i64 0) (.slice none 0 0) (.int .i64 0) (.int .i64 0) (.string ⟨#[]⟩) (.slice none 0 0) := by
    rw [← hW2]
    have := Box6.new (w.alloc (.cells #[.int .i64 k, .int .i64 ix, .string nm, .slice a ks.len cap] 29)) (.int .i64 0) (.slice none 0 0) (.int .i64 0) (.int .i64 0) (.string ⟨#[]⟩) (.slice none 0 0) 51
    rwa [World.size_alloc] at this
  have HF := hide (ifault k ix nm a cap ks W2 hk hix hnm ((hs.below b2 (fun _ x => x)).mono (fun b x => by omega)) (by omega))
  unfold nodeV at HF
  rw [hflt] at HF
  have HB2 := hide b2
  have HZ2 := hide z2
  have HQ1 := hide q1
  have HQ4 := hide q4
  have HS := hide hs
  have HP := hide hP
  have HK := hide hK
  have HFI := hide hFI
  have HN := hide hn
  have HQ := hide hq
  have HPN := hide hpn
  have HIN := hide hIN
  have HIW := hide hIW
  obtain ⟨-, x0, xi, x1, x2, -, -, -, -⟩ := id q1
  clear b2 z2 q1 q4 hs hflt hP hK hFI hn hq hpn hIN hIW hIL
  go_enter Try.func33, Try.ntmps33
  go_upto_region 1 with fail
  clear hW2
  go_wp2_with fail
  refine HF.out.mono ?_
  rintro e w1 ⟨rfl, b1⟩
  have hmm := run_makeMap79 w1
  have HB1 := hide (HB2.out.trans (b1.mono (by have := HZ2.out; omega)))
  have HQ1b := hide (HQ1.out.below b1 HQ1.out.lt)
  have HQ4b := hide (HQ4.out.below b1)
  have HZ1 : Hid (w.heap.size + 1 + 1 ≤ w1.heap.size) := by have h1 := HZ2.out; have h2 := b1.size; unfold Hid; omega
  have HS0 : Hid (SM (w1.alloc (.map #[] 0)) w1.heap.size 0 (K.take 0)) := SM.start w1
  have HK0 : Hid (Below w1.heap.size w1 (w1.alloc (.map #[] 0))) := below_alloc1 _ _
  clear HF b1 HQ1 HQ4 HB2 HZ2 x0 xi x1 x2
  go_wp2_with fail
  clear hmm
  generalize w1.alloc (.map #[] 0) = w3 at *
  go_loopw [22] (fun s wr => ∃ i : Nat, s = .int .i64 i ∧ i ≤ n ∧ Hid (SM wr w1.heap.size i (K.take i)) ∧ Hid (Below w1.heap.size w1 wr)) (fun s _ => n - (intOf s).toNat)
  case atStart => exact ⟨0, rfl, Nat.zero_le _, HS0, HK0⟩
  case round =>
    obtain ⟨i, rfl, hi, HSM, HBE⟩ := hrel
    by_cases hlt : i < n
    · have hlt' : (i : Int) < n := by omega
      obtain ⟨b, o, rfl, hb, hr⟩ := HK.out.row (by rw [← HN.out]; omega)
      obtain ⟨y, hy⟩ : ∃ y, K[i]? = some y := ⟨K[i]'(by rw [← HN.out]; exact hlt), by simp [← HN.out, hlt]⟩
      have c1 := (HBE.out.cell (p := ⟨b, o + i, none⟩) (by show b < _; have := HZ1.out; omega)).trans ((HB1.out.cell (p := ⟨b, o + i, none⟩) hb).trans (hr i y hy))
      have hkey : keyOf Try.prog 2 (.int .i64 y) = some (.int .i64 y) := Maps.keyOf_int_mk Try.underlying2 (HK.out.ok y (List.mem_of_getElem? hy))
      obtain ⟨D0, hD0, hat0⟩ := id HSM.out
      have HD := hide hD0
      have HFN : Hid (∀ w2, w2.ownsMap Try.prog 2 unitElem w1.heap.size (i + 1) (D0.put (.int .i64 y) (.agg [])) → wr.grownBy w2 (some w1.heap.size) → SM w2 w1.heap.size (i + 1) (K.take (i + 1)) ∧ Below w1.heap.size w1 w2) := fun w2 ho hg => by
        refine ⟨?_, Below.kept HBE.out (Kept.grown (S := fun c => c ≠ w1.heap.size) hg (fun c e h => by cases e; exact h rfl)) (fun c hc => by omega) (Nat.le_refl _)⟩
        rw [take_snoc hy]
        exact SM.put hD0.isMap hat0 ho
      clear hr hy hat0 hD0
      go_wp2_with (first
        | (at_mapUpdate; refine wpList_mapUpdate_own _ rfl _ _ _ 79 rfl 2 83 (Maps.int_keyed Try.underlying2) Try.underlying79 _ w1.heap.size i D0 rfl HD.out (by unfold maxLen; omega) _ _ _ rfl rfl hkey _ [] unitElem_mk ?_; intro w2 hown2 hg2; have HF2 := hide (HFN.out w2 hown2 hg2); clear hown2 hg2)
        | fail)
      go_roundw
      case rel => exact ⟨i + 1, by go_num, by omega, HF2.out.1, HF2.out.2⟩
      case measure => simp [intOf]; omega
    · have hlt' : ¬ (i : Int) < n := by omega
      obtain rfl : i = n := by omega
      have HSN : Hid (SM wr w1.heap.size i K) := by have h := HSM.out; unfold Hid at h ⊢; rw [take_all K HN.out] at h; exact h
      have hmm := run_makeMap118 wr
      have hzr := HBE.out.size
      have hsl := HSM.out.lt
      have HQ1c := hide (HQ1b.out.below HBE.out HQ1b.out.lt)
      have HQ4c := hide (HQ4b.out.below HBE.out)
      have HBr := hide (HB1.out.trans (HBE.out.mono (by have := HZ1.out; omega)))
      have bb := below_alloc2 wr (.map #[] 0) (.cells #[.map (some wr.heap.size)] 118)
      have HPM0 : Hid (PM ((wr.alloc (.map #[] 0)).alloc (.cells #[.map (some wr.heap.size)] 118)) wr.heap.size 0 []) := (PM.start wr).kept (Kept.alloc (fun _ => True) _ _) trivial
      have HC0 : Hid (((wr.alloc (.map #[] 0)).alloc (.cells #[.map (some wr.heap.size)] 118)).cell? ⟨wr.heap.size + 1, 0, none⟩ = some (.map (some wr.heap.size))) := by
        have h1 := cell_new (wr.alloc (.map #[] 0)) (.map (some wr.heap.size)) 118
        rw [World.size_alloc] at h1
        exact h1
      have HZa : Hid (((wr.alloc (.map #[] 0)).alloc (.cells #[.map (some wr.heap.size)] 118)).heap.size = wr.heap.size + 1 + 1) := by simp [Hid]
      have HBb := hide bb
      obtain ⟨-, x0, xi, x1, x2, -, -, -, -⟩ := HQ1c.out.below bb HQ1c.out.lt
      clear bb HSM
      go_upto_region 10 with fail
      generalize (wr.alloc (.map #[] 0)).alloc (.cells #[.map (some wr.heap.size)] 118) = w5 at *
      have HB5 := hide (HBr.out.trans (HBb.out.mono HBr.out.size))
      have HFr := hide (ifree k ix nm a cap ks w5 hk hix hnm ((HS.out.below HB5.out (fun _ x => x)).mono (fun b x => by have := HB5.out.size; omega)) (by omega))
      unfold nodeV at HFr
      rw [← HFI.out] at HFr
      go_wp2_with fail
      refine HFr.out.mono ?_
      rintro e w7 ⟨v7, rfl, r7, b7⟩
      obtain ⟨fa, fc, rfl, -⟩ := r7.sl
      have HI7 := hide (r7.is HIW.out)
      have HNE : Hid (∀ b o, fa = some ⟨b, o, none⟩ → b ≠ wr.heap.size) := fun b o e h => by
        subst e
        have h1 := (r7.lt b rfl).1
        have h2 := HZa.out
        omega
      rw [← HQ.out]
      have HB7 := hide (HB5.out.trans (b7.mono HB5.out.size))
      have hz7 := b7.size
      have hza := HZa.out
      have HQ1d := hide ((HQ1c.out.below HBb.out HQ1c.out.lt).below b7 (by have := HQ1c.out.lt; omega))
      have HQ4d := hide ((HQ4c.out.below HBb.out).below b7)
      have HC7 : Hid (w7.cell? ⟨wr.heap.size + 1, 0, none⟩ = some (.map (some wr.heap.size))) := (b7.cell (p := ⟨wr.heap.size + 1, 0, none⟩) (by show wr.heap.size + 1 < _; omega)).trans HC0.out
      have HCI0 : Hid (CbI w7 w7 wr.heap.size (idF K (FI.take 0)) 0) := ⟨HPM0.out.below b7 (by omega), Kept.refl _ _⟩
      have HSM7 : Hid (SM w7 w1.heap.size i K) := (HSN.out.keep (HBb.out.block _ hsl)).keep (b7.block _ (by omega))
      clear HFr r7 b7 x0 xi x1 x2 HPM0 HC0 HSN HQ1c HQ4c HQ1b HQ4b hmm
      go_wp2_with fail
      go_loopw [34] (fun s wq => ∃ j : Nat, s = .int .i64 j ∧ j ≤ q ∧ Hid (CbI w7 wq wr.heap.size (idF K (FI.take j)) j)) (fun s _ => q - (intOf s).toNat)
      case atStart => exact ⟨0, rfl, Nat.zero_le _, HCI0⟩
      case round =>
        rename World => wq
        obtain ⟨j, rfl, hj, HC⟩ := hrel
        have hz8 := HC.out.kp.size
        have hC8 := (HC.out.kp.cell (p := ⟨wr.heap.size + 1, 0, none⟩) (by show wr.heap.size + 1 < _; omega) (by show wr.heap.size + 1 ≠ _; omega)).trans HC7.out
        by_cases hlt2 : j < q
        · have hlt2' : (j : Int) < q := by omega
          obtain ⟨b, o, rfl, hb, hr⟩ := HI7.out.row (by rw [← HQ.out]; omega)
          obtain ⟨y, hy⟩ : ∃ y, FI[j]? = some y := ⟨FI[j]'(by rw [← HQ.out]; exact hlt2), by simp [← HQ.out, hlt2]⟩
          have c1 := (HC.out.kp.cell (p := ⟨b, o + j, none⟩) hb (by show b ≠ _; exact HNE.out b o rfl)).trans (hr j y hy)
          have hyw := HIW.out y (List.mem_of_getElem? hy)
          have hl1 := ((HSM7.out.kept HC.out.kp (by omega)) : SM wq w1.heap.size i K).look y hyw
          have HTK : Hid (idF K (FI.take (j + 1)) = if y ∈ K then idF K (FI.take j) else idF K (FI.take j) ++ [y]) := by unfold Hid; rw [take_snoc hy, idF_snoc]
          have HNI : Hid (y ∉ idF K (FI.take j)) := fun h => by
            have h1 := idF_mem h
            have h2 : FI.Nodup := HIN.out
            have h3 := List.Nodup.sublist (List.take_sublist (j + 1) FI) h2
            rw [take_snoc hy, List.nodup_append] at h3
            exact h3.2.2 y h1 y (by simp) rfl
          clear hr hy
          by_cases hin : y ∈ K
          · rw [decide_eq_true hin] at hl1
            have HF : Hid (CbI w7 (wq.alloc (.cells #[] 83)) wr.heap.size (idF K (FI.take (j + 1))) (j + 1)) := by
              unfold Hid
              rw [HTK.out, if_pos hin]
              exact ⟨(HC.out.pm.kept (Kept.alloc (fun _ => True) _ _) trivial).mono (by omega), HC.out.kp.trans (Kept.alloc _ _ _)⟩
            clear hin
            go_wp2_with fail
            go_roundw
            case rel => exact ⟨j + 1, by go_num, by omega, HF⟩
            case measure => simp [intOf]; omega
          · rw [decide_eq_false hin] at hl1
            have hTK : idF K (FI.take (j + 1)) = idF K (FI.take j) ++ [y] := by rw [HTK.out, if_neg hin]
            have HTK2 := hide hTK
            have hlj : (idF K (FI.take j)).length ≤ 20000 := Nat.le_trans (idF_len _ _) (by have := List.length_take_le j FI; have := HQ.out; omega)
            have hpm := HC.out.pm.kept (Kept.alloc (fun _ => True) wq (.cells #[] 83)) trivial
            have hlen := hpm.len 3
            obtain ⟨D0, hD0, hT0, hz0, hat0, hix0⟩ := id hpm
            have HD := hide hD0
            have hkey : keyOf Try.prog 2 (.int .i64 y) = some (.int .i64 y) := Maps.keyOf_int_mk Try.underlying2 hyw
            have HFN : Hid (∀ w2, w2.ownsMap Try.prog 2 (plainElem Try.prog 2) wr.heap.size (j + 1) (D0.put (.int .i64 y) (.lit (.int .i64 (((idF K (FI.take j)).length : Nat) : Int)))) → (wq.alloc (.cells #[] 83)).grownBy w2 (some wr.heap.size) → CbI w7 w2 wr.heap.size (idF K (FI.take (j + 1))) (j + 1)) := fun w2 ho hg => by
              rw [HTK2.out]
              exact ⟨PM.put hT0 hz0 hat0 hix0 HNI.out ho, (HC.out.kp.trans (Kept.alloc _ _ _)).trans (Kept.grown hg (fun c e h => by cases e; exact h rfl))⟩
            have hca : (wq.alloc (.cells #[] 83)).cell? ⟨wr.heap.size + 1, 0, none⟩ = some (.map (some wr.heap.size)) := ((Kept.alloc (fun _ => True) wq (.cells #[] 83)).cell (p := ⟨wr.heap.size + 1, 0, none⟩) (by show wr.heap.size + 1 < _; omega) trivial).trans hC8
            have hwn : (Lit.int .i64 (((idF K (FI.take j)).length : Nat) : Int)).wf = true := wf_nat (by omega)
            clear hin hT0 hz0 hat0 hix0 hD0 hpm hTK
            generalize (idF K (FI.take j)).length = m at *
            go_wp2_with (first
              | (at_mapUpdate; refine wpList_mapUpdate_own _ rfl _ _ _ 118 rfl 2 2 (Maps.int_keyed Try.underlying2) Try.underlying118 _ wr.heap.size j D0 rfl HD.out (by unfold maxLen; omega) _ _ _ rfl rfl hkey _ [] (plainElem_int Try.underlying2 hwn) ?_; intro w2 hown2 hg2; have HF2 := hide (HFN.out w2 hown2 hg2); clear hown2 hg2)
              | fail)
            go_roundw
            case rel => exact ⟨j + 1, by go_num, by omega, HF2⟩
            case measure => simp [intOf]; omega
        · have hlt2' : ¬ (j : Int) < q := by omega
          obtain rfl : j = q := by omega
          have HPM8 : Hid (PM wq wr.heap.size j (idF K FI)) := by have h := HC.out.pm; unfold Hid; rw [take_all FI HQ.out] at h; exact h
          have hLl : (idF K FI).length ≤ 20000 := Nat.le_trans (idF_len _ _) (by have := HQ.out; omega)
          have HB8 : Hid (Below w.heap.size w wq) := Below.kept HB7.out HC.out.kp (fun c hc => by have := HBr.out.size; omega) (Nat.le_refl _)
          have HWC := hide (leavesc_any _ ks (Nat.lt_succ_self _) k ix nm (idF K FI) (wr.heap.size + 1) wr.heap.size j w.heap.size wq a cap HB8.out.size hsz (by omega) hC8 HPM8.out hk hix hnm (HS.out.below HB8.out (fun _ x => x)))
          unfold nodeV at HWC
          have HQ1e := hide (HQ1d.out.kept HC.out.kp (by have := HBr.out.size; have := HZ1.out; omega))
          have HQ4e := hide (HQ4d.out.kept HC.out.kp (by have := HBr.out.size; have := HZ1.out; omega))
          obtain ⟨-, x0, xi, x1, x2, -, -, -, -⟩ := HQ1e.out
          have HC8 := hide hC8
          clear hC8 HC
          go_wp2_with fail
          refine HWC.out.mono ?_
          rintro e w9 ⟨v9, rfl, d, rfl, sd, od, nd, ld, b9⟩
          unfold Nd.v nodeV
          have hsd : d.fo.sim ((Fo.cons k ix nm none 0 ks .nil).wc (idF K FI)) := sd.trans (wc_sim ⟨rfl, rfl, rfl, Fo.sim.refl _, trivial⟩)
          have HSD := hide hsd
          have HOD := hide od
          have HND := hide nd
          have HLD := hide ld
          have hz9 := b9.size
          have k9 : Kept (fun _ => True) wq (w9.alloc (.cells #[.int .i64 d.k, .int .i64 d.ix, .string d.nm, .slice d.a d.ks.len d.cap] 29)) := (Kept.of_below b9 (fun c hc _ => hc)).trans (Kept.alloc _ _ _)
          have HQ4f := hide (HQ4e.out.kept k9 trivial)
          have HPM9 := hide (HPM8.out.kept k9 trivial)
          have HC9 : Hid ((w9.alloc (.cells #[.int .i64 d.k, .int .i64 d.ix, .string d.nm, .slice d.a d.ks.len d.cap] 29)).cell? ⟨wr.heap.size + 1, 0, none⟩ = some (.map (some wr.heap.size))) := (k9.cell (p := ⟨wr.heap.size + 1, 0, none⟩) (by show wr.heap.size + 1 < _; omega) trivial).trans HC8.out
          have HQ15 := hide (Box4.new w9 (.int .i64 d.k) (.int .i64 d.ix) (.string d.nm) (.slice d.a d.ks.len d.cap) 29)
          have HB9 := hide (Below.kept HB8.out k9 (fun _ _ => trivial) (Nat.le_refl _))
          have HZ9 : Hid ((w9.alloc (.cells #[.int .i64 d.k, .int .i64 d.ix, .string d.nm, .slice d.a d.ks.len d.cap] 29)).heap.size = w9.heap.size + 1) := by simp [Hid]
          have HK9 : Hid (Kept (fun _ => True) w9 (w9.alloc (.cells #[.int .i64 d.k, .int .i64 d.ix, .string d.nm, .slice d.a d.ks.len d.cap] 29))) := Kept.alloc _ _ _
          clear sd od nd ld b9 k9 hsd HWC HQ1e HQ4e HPM8 HC8 x0 xi x1 x2
          go_upto_region 18 with fail
          generalize w9.alloc (.cells #[.int .i64 d.k, .int .i64 d.ix, .string d.nm, .slice d.a d.ks.len d.cap] 29) = wx at *
          have HPA : Hid (∀ V, Kept (fun _ => True) wx V → Calls Try.prog 70 #[.map (some wr.heap.size), .slice pa pn pc] V fun e w' => ∃ v', e = .returned v' ∧ ∃ (va : Option Addr) (vc : Nat), v' = .slice va (pls (idF K FI) P).length vc ∧ PdR wx.heap.size w' (.slice va (pls (idF K FI) P).length vc) (pls (idF K FI) P) ∧ Kept (fun _ => True) wx w') := fun V kV => by
            have h := predsAt_any wr.heap.size j (idF K FI) pa pc P V (HPM9.out.kept kV trivial) (((HP.out.below HB9.out (Nat.le_refl _)).kept kV (fun c hc => ⟨by have := HB9.out.size; omega, trivial⟩)).mono (by have := HB9.out.size; have := kV.size; omega)) hPn hPl
            rw [← pls_knl, ← HPN.out] at h
            refine h.mono ?_
            rintro e w' ⟨v', rfl, h1, h2⟩
            obtain ⟨va, vc, rfl⟩ := h1.sl
            exact ⟨_, rfl, va, vc, rfl, h1.mono kV.size, kV.trans (Kept.of_below h2 (fun c hc _ => hc))⟩
          rw [← HPL.out] at HPA
          obtain ⟨m, hm⟩ : ∃ m, m = PL.length := ⟨_, rfl⟩
          rw [← hm] at HPA
          have HM := hide hm
          have hl0 := HPM9.out.len 3
          have hl1 := (HPM9.out.kept (Kept.drew (fun _ => True) wx) trivial).len 3
          rw [← HCN.out] at hl0 hl1
          have HFN : Hid (∀ w5 w' (va : Option Addr) (vc : Nat), PdR wx.heap.size w5 (.slice va m vc) PL ∧ Kept (fun _ => True) wx w5 → Kept (fun c => c ≠ w.heap.size + 1) w5 w' → ClP w (cn : Nat) PL ((Fo.cons k ix nm none 0 ks .nil).wc (idF K FI)) (.returned (.agg #[.int .i64 (cn : Int), .slice va m vc, .int .i64 d.k, .int .i64 d.ix, .string d.nm, .slice d.a d.ks.len d.cap])) w') := by
            intro w5 w' va vc ⟨hp5, k5⟩ k'
            have k0 : Kept (fun c => c ≠ w.heap.size + 1) w9 w' := ((HK9.out.trans k5).mono (fun _ _ _ => trivial)).trans k'
            have hzz := HZ9.out
            have z5 := k5.size
            have z' := k'.size
            have hall := HOD.out.sl.all_of
            have hw9 : w.heap.size + 1 + 1 ≤ wq.heap.size := by have := HZ1.out; omega
            refine ⟨d, va, vc, by unfold schV; rw [HM.out], HSD.out, HOD.out.keep (fun c h => ⟨by omega, by omega⟩) (fun p hp v hv => (k0.cell (p := p) hp.2 (by have := hp.1; omega)).trans hv), HND.out, ?_, ?_, ?_, ?_⟩
            · intro c hc j
              have h := hall c hc
              exact (k0.frozen (p := ⟨c, j, none⟩) h.2 (by show c ≠ _; have := h.1; omega)).trans (HLD.out c hc j)
            · rw [← HM.out]
              have hb5 := hp5.lt
              exact (hp5.kept k' (fun c hc => by have := (hb5 c hc).1; omega)).mono (by omega)
            · intro c hc hin
              rw [← HM.out] at hc
              have h1 := (hp5.lt c hc).1
              have h2 := (hall c hin).2
              omega
            · exact Below.kept HB9.out ((k5.mono (fun _ _ _ => trivial)).trans k') (fun c hc => by omega) (Nat.le_refl _)
          obtain ⟨-, p0, pi, p1, p2, -, -, -, -⟩ := HQ15.out
          have hC9 := HC9.out
          have HC9l : Hid (wr.heap.size + 1 < wx.heap.size) := by have := HZ9.out; unfold Hid; omega
          obtain ⟨-, y0, y1, y2, y3, y4, y5, g0, g1, g2, g3, g4, g5⟩ := HQ4f.out
          clear hm
          go_region_law (first
            | (refine step_call (by rfl) 70 #[.map (some wr.heap.size), .slice pa pn pc] ?_ _ (HPA.out _ ⟨rfl, rfl, rfl, Nat.le_refl _, fun _ _ _ => rfl⟩) ?_; simp [go_sem]; rintro v5 w5 ⟨va, vc, rfl, hp5, k5⟩; have HP5 : Hid (PdR wx.heap.size w5 (.slice va m vc) PL ∧ Kept (fun _ => True) wx w5) := ⟨hp5, k5⟩; obtain ⟨-, p0, pi, p1, p2, -, -, -, -⟩ := HQ15.out.kept HP5.out.2 trivial; obtain ⟨-, y0, y1, y2, y3, y4, y5, g0, g1, g2, g3, g4, g5⟩ := HQ4f.out.kept HP5.out.2 trivial; have hC9 := (HP5.out.2.cell (p := ⟨wr.heap.size + 1, 0, none⟩) HC9l.out trivial).trans HC9.out; clear hp5 k5)
            | fail)
          all_goals
            go_wp2_with fail
            refine bodyPost_ret (v := .agg #[.int .i64 (cn : Int), .slice va m vc, .int .i64 d.k, .int .i64 d.ix, .string d.nm, .slice d.a d.ks.len d.cap]) (by simp [results, Try.results33, go_sem, y0, y1, y2, y3, y4, y5]) rfl ?_
            refine HFN.out w5 _ va vc HP5.out ?_
            exact (((((Kept.setCell _ _ _ _ (by simp)).trans (Kept.setCell _ _ _ _ (by simp))).trans (Kept.setCell _ _ _ _ (by simp))).trans (Kept.setCell _ _ _ _ (by simp))).trans (Kept.setCell _ _ _ _ (by simp))).trans (Kept.setCell _ _ _ _ (by simp))
end Go.Proofs.Ytcnbnhoeobdbnaa
