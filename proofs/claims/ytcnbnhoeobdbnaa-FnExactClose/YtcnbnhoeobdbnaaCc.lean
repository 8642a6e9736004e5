import Derived.Test.YtcnbnhoeobdbnaaCb
namespace Go.Proofs.Ytcnbnhoeobdbnaa
open Go.RowKit Go.Joins

theorem IS.mono {A : World} {n n0 : Nat} {L : List Int} {a : Option Addr} {cap : Nat} (h : IS A n0 a cap L) (hb : n0 ≤ n) : IS A n a cap L :=
  ⟨h.len, h.cap, h.ok, fun hl => by obtain ⟨b, o, e, s, x⟩ := h.row hl; exact ⟨b, o, e, by omega, x⟩⟩

/-- What the model's Close answers. -/
def ClM (w : World) (c : Int) (P : List Pd) (T : Fo) (e : Ending) (W' : World) : Prop :=
  ∃ (d : Nd) (va : Option Addr) (vc : Nat), e = .returned (schV c va P.length vc d.k d.ix d.nm d.a d.ks.len d.cap) ∧ d.fo.sim T ∧ d.Ok W' (fun c => w.heap.size ≤ c ∧ c < W'.heap.size) ∧
    PdR w.heap.size W' (.slice va P.length vc) P ∧ Below w.heap.size w W'

set_option maxHeartbeats 4000000 in
set_option maxRecDepth 100000 in
theorem sclose_bad (k ix : Int) (nm : ByteArray) (a : Option Addr) (cap : Nat) (ks : Fo) (pa : Option Addr) (pc : Nat) (P : List Pd) (la : Option Addr) (lc : Nat) (K : List Int) (w : World)
    (hs : ks.Sl w (fun b => b < w.heap.size) a cap) (hflt : fltB k ix nm ks = true) :
    Calls Try.prog 30 #[nodeV k ix nm a ks.len cap, .slice pa P.length pc, .slice la K.length lc] w fun e W' => ClM w 0 [] zeroT e W' := by
  unfold nodeV
  obtain ⟨W2, hW2⟩ : ∃ W2, (w.alloc (.cells #[.int .i64 k, .int .i64 ix, .string nm, .slice a ks.len cap] 29)).alloc (.cells #[.int .i64 0, .slice none 0 0, .int .i64 0, .int .i64 0, .string ⟨#[]⟩, .slice none 0 0] 51) = W2 := ⟨_, rfl⟩
  have b2 : Below w.heap.size w W2 := by rw [← hW2]; exact below_alloc2 _ _ _
  have z2 : W2.heap.size = w.heap.size + 1 + 1 := by rw [← hW2]; simp
  have q1 : Box4 W2 w.heap.size (.int .i64 k) (.int .i64 ix) (.string nm) (.slice a ks.len cap) := by rw [← hW2]; exact (Box4.new _ _ _ _ _ _).alloc _
  have q4 : Box6 W2 (w.heap.size + 1) (.int .i64 0) (.slice none 0 0) (.int .i64 0) (.int .i64 0) (.string ⟨#[]⟩) (.slice none 0 0) := by
    rw [← hW2]
    have := Box6.new (w.alloc (.cells #[.int .i64 k, .int .i64 ix, .string nm, .slice a ks.len cap] 29)) (.int .i64 0) (.slice none 0 0) (.int .i64 0) (.int .i64 0) (.string ⟨#[]⟩) (.slice none 0 0) 51
    rwa [World.size_alloc] at this
  have HF := hide (sfault k ix nm a cap ks W2 ((hs.below b2 (fun _ x => x)).mono (fun b x => by omega)))
  unfold nodeV at HF
  rw [hflt] at HF
  have HB2 := hide b2
  have HZ2 := hide z2
  have HQ4 := hide q4
  obtain ⟨-, x0, xi, x1, x2, -, -, -, -⟩ := id q1
  clear b2 z2 q1 q4 hs hflt
  go_enter Try.func30, Try.ntmps30
  go_upto_region 1 with fail
  clear hW2
  go_wp2_with fail
  refine HF.out.mono ?_
  rintro e w1 ⟨rfl, b1⟩
  obtain ⟨-, y0, y1, y2, y3, y4, y5, g0, g1, g2, g3, g4, g5⟩ := HQ4.out.below b1
  have HB1 := hide b1
  clear b1
  go_wp2_with fail
  have hz := HZ2.out
  have hz1 := HB1.out.size
  refine bodyPost_ret (v := .agg #[.int .i64 0, .slice none 0 0, .int .i64 0, .int .i64 0, .string ⟨#[]⟩, .slice none 0 0]) (by simp [results, Try.results30, go_sem, y0, y1, y2, y3, y4, y5]) rfl ⟨⟨0, 0, ⟨#[]⟩, none, 0, .nil⟩, none, 0, rfl, ⟨rfl, rfl, rfl, trivial, trivial⟩, ⟨(by show (Lit.int .i64 0).wf = true; decide), (by show (Lit.int .i64 0).wf = true; decide), (by show (0 : Nat) ≤ maxLen; exact Nat.zero_le _), ⟨Nat.le_refl _, Nat.zero_le _, fun h => by simp [Fo.len] at h⟩⟩, PdR.nil _ _, ?_⟩
  refine ((((((HB2.out.trans (HB1.out.mono (by omega))).setCell ?_ _).setCell ?_ _).setCell ?_ _).setCell ?_ _).setCell ?_ _).setCell ?_ _ <;> simp <;> omega

/-- What the first loop knows: the row of places begins in block M. -/
structure CcI (w5 wr : World) (M : Nat) (L : List Int) (v : Value) : Prop where
  ir : IR M wr v L
  kp : Kept (fun c => c ≠ M) w5 wr
  ob : ∀ c, v.ownBlock = some c → c = M ∨ w5.heap.size ≤ c

/-- What the loops for preds know: the scheme lies in block T. -/
structure CdI (w9 wr : World) (T : Nat) (m : Nat) (d : Nd) (v : Value) (OUT : List Pd) : Prop where
  bx : Box6 wr T (.int .i64 (m : Int)) v (.int .i64 d.k) (.int .i64 d.ix) (.string d.nm) (.slice d.a d.ks.len d.cap)
  pr : PdR (T + 1) wr v OUT
  kp : Kept (fun c => c < T) w9 wr

set_option maxHeartbeats 8000000 in
set_option maxRecDepth 100000 in
/-- The model's Close, where the type has no fault. -/
theorem sclose_good (k ix : Int) (nm : ByteArray) (a : Option Addr) (cap : Nat) (ks : Fo) (pa : Option Addr) (pc : Nat) (P : List Pd) (la : Option Addr) (lc : Nat) (K : List Int) (w : World)
    (hk : (Lit.int .i64 k).wf = true) (hix : (Lit.int .i64 ix).wf = true) (hnm : nm.size ≤ maxLen) (hs : ks.Sl w (fun b => b < w.heap.size) a cap) (hT : TG k ix nm ks)
    (hP : PSl w w.heap.size pa pc P) (hPl : P.length ≤ 1048576) (hK : IS w w.heap.size la lc K) (hKl : K.length ≤ 1048576) :
    Calls Try.prog 30 #[nodeV k ix nm a ks.len cap, .slice pa P.length pc, .slice la K.length lc] w fun e W' => ClM w ((clL k ix nm ks K).length : Nat) (pls (clL k ix nm ks K) P) ((Fo.cons k ix nm none 0 ks .nil).wc (clL k ix nm ks K)) e W' := by
  have hst := ks.size_le
  have hflt : fltB k ix nm ks = false := by simp [fltB, hT]
  have hTz := hT.2
  have hIN := idsOf_nodup k ix nm ks
  have hIL := idsOf_len k ix nm ks
  have hIW := idsOf_wf (k := k) (nm := nm) hix hs
  have hgd : (Fo.cons k ix nm a cap ks .nil).good 1 := hT.1
  have hfr : (Fo.cons k ix nm a cap ks .nil).fre [] = idsOf k ix nm ks := by unfold idsOf; rw [hflt]; rfl
  unfold nodeV clL
  obtain ⟨FI, hFI⟩ : ∃ FI, FI = idsOf k ix nm ks := ⟨_, rfl⟩
  rw [← hFI] at hIN hIL hIW hfr ⊢
  obtain ⟨L, hL⟩ : ∃ L, L = idF K FI := ⟨_, rfl⟩
  rw [← hL]
  have hLn : L.Nodup := by rw [hL]; exact idF_nodup hIN
  have hLl : L.length ≤ 20000 := by rw [hL]; exact Nat.le_trans (idF_len _ _) hIL
  have hLw : ∀ y ∈ L, (Lit.int .i64 y).wf = true := fun y hy => by rw [hL] at hy; exact hIW y (idF_mem hy)
  obtain ⟨cn, hcn⟩ : ∃ cn, cn = L.length := ⟨_, rfl⟩
  rw [← hcn]
  obtain ⟨n, hn⟩ : ∃ n, n = K.length := ⟨_, rfl⟩
  rw [← hn]
  obtain ⟨q, hq⟩ : ∃ q, q = FI.length := ⟨_, rfl⟩
  have hqb : q ≤ 20000 := by omega
  have hnb : n ≤ 1048576 := by omega
  have hcb : cn ≤ 20000 := by omega
  obtain ⟨pn, hpn⟩ : ∃ pn, pn = P.length := ⟨_, rfl⟩
  rw [← hpn]
  have hpb : pn ≤ 1048576 := by omega
  obtain ⟨W2, hW2⟩ : ∃ W2, (w.alloc (.cells #[.int .i64 k, .int .i64 ix, .string nm, .slice a ks.len cap] 29)).alloc (.cells #[.int .i64 0, .slice none 0 0, .int .i64 0, .int .i64 0, .string ⟨#[]⟩, .slice none 0 0] 51) = W2 := ⟨_, rfl⟩
  have b2 : Below w.heap.size w W2 := by rw [← hW2]; exact below_alloc2 _ _ _
  have z2 : W2.heap.size = w.heap.size + 1 + 1 := by rw [← hW2]; simp
  have q1 : Box4 W2 w.heap.size (.int .i64 k) (.int .i64 ix) (.string nm) (.slice a ks.len cap) := by rw [← hW2]; exact (Box4.new _ _ _ _ _ _).alloc _
  have q4 : Box6 W2 (w.heap.size + 1) (.int .i64 0) (.slice none 0 0) (.int .i64 0) (.int .i64 0) (.string ⟨#[]⟩) (.slice none 0 0) := by
    rw [← hW2]
    have := Box6.new (w.alloc (.cells #[.int .i64 k, .int .i64 ix, .string nm, .slice a ks.len cap] 29)) (.int .i64 0) (.slice none 0 0) (.int .i64 0) (.int .i64 0) (.string ⟨#[]⟩) (.slice none 0 0) 51
    rwa [World.size_alloc] at this
  have HF := hide (sfault k ix nm a cap ks W2 ((hs.below b2 (fun _ x => x)).mono (fun b x => by omega)))
  unfold nodeV at HF
  rw [hflt] at HF
  have HB2 := hide b2
  have HZ2 := hide z2
  have HQ1 := hide q1
  have HQ4 := hide q4
  have HS := hide hs
  have HP := hide hP
  have HK := hide hK
  have HN := hide hn
  have HQ := hide hq
  have HPN := hide hpn
  have HIN := hide hIN
  have HIW := hide hIW
  have HL := hide hL
  have HLN := hide hLn
  have HLW := hide hLw
  have HCN := hide hcn
  have HGD := hide hgd
  have HFR := hide hfr
  obtain ⟨-, x0, xi, x1, x2, -, -, -, -⟩ := id q1
  clear b2 z2 q1 q4 hs hflt hP hK hFI hn hq hpn hIN hIW hIL hL hLn hLw hcn hgd hfr hT
  go_enter Try.func30, Try.ntmps30
  go_upto_region 1 with fail
  clear hW2
  go_wp2_with fail
  refine HF.out.mono ?_
  rintro e w1 ⟨rfl, b1⟩
  have HB1 := hide (HB2.out.trans (b1.mono (by have := HZ2.out; omega)))
  have HQ1b := hide ((HQ1.out.below b1 HQ1.out.lt).alloc (.cells #[] 2))
  have HQ4b := hide ((HQ4.out.below b1).kept (Kept.alloc (fun _ => True) _ (.cells #[] 2)) trivial)
  have HZ1 : Hid (w.heap.size + 1 + 1 ≤ w1.heap.size) := by have h1 := HZ2.out; have h2 := b1.size; unfold Hid; omega
  have HZ3 : Hid ((w1.alloc (.cells #[] 2)).heap.size = w1.heap.size + 1) := by simp [Hid]
  have HB3 : Hid (Below w.heap.size w (w1.alloc (.cells #[] 2))) := HB1.out.trans ((below_alloc1 _ _).mono HB1.out.size)
  have HI3 : Hid (IR w1.heap.size (w1.alloc (.cells #[] 2)) (.slice (some ⟨w1.heap.size, 0, none⟩) 0 0) []) := IR.empty _ _ (Nat.le_refl _)
  have HFn := hide (free_node _ ks (Nat.lt_succ_self _) k ix nm w.heap.size (w1.heap.size + 1) (w1.alloc (.cells #[] 2)) a cap (.slice none 0 0) [] (by have := HZ1.out; omega) (by rw [HZ3.out]; omega) (by simp only [List.length_nil]; omega) (HS.out.below HB3.out (fun _ x => x)) (IR.nil _ _))
  unfold nodeV at HFn
  rw [HFR.out] at HFn
  obtain ⟨-, x0, xi, x1, x2, -, -, -, -⟩ := HQ1b.out
  clear HF b1 HQ1 HQ4 HB2 HZ2
  go_upto_region 4 with fail
  generalize w1.alloc (.cells #[] 2) = w3 at *
  go_wp2_with fail
  refine HFn.out.mono ?_
  rintro e w5 ⟨v5, rfl, r5, k5, -⟩
  obtain ⟨fa, fc, rfl, -⟩ := r5.sl
  have HF5 := hide (r5.is HIW.out)
  have HNE : Hid (∀ b o, fa = some ⟨b, o, none⟩ → b ≠ w1.heap.size) := fun b o e h => by
    subst e
    have h1 := (r5.lt b rfl).1
    omega
  rw [← HQ.out]
  have kk5 : Kept (fun _ => True) w3 w5 := k5.mono (fun c _ _ h => by cases h)
  have hz5 := kk5.size
  have HQ1c := hide (HQ1b.out.kept kk5 trivial)
  have HQ4c := hide (HQ4b.out.kept kk5 trivial)
  have HB5 : Hid (Below w.heap.size w w5) := Below.kept HB3.out kk5 (fun _ _ => trivial) (Nat.le_refl _)
  have HI5 : Hid (CcI w5 w5 w1.heap.size (idF K (FI.take 0)) (.slice (some ⟨w1.heap.size, 0, none⟩) 0 0)) := ⟨HI3.out.kept kk5 (fun _ _ => trivial), Kept.refl _ _, fun c hc => .inl (Option.some.inj hc).symm⟩
  clear r5 k5 kk5 x0 xi x1 x2 HFn HQ1b HQ4b HI3
  go_wp2_with fail
  go_loopw [7, 9] (fun s7 s9 wr => ∃ (i m ic : Nat) (ia : Option Addr), s9 = .int .i64 i ∧ s7 = .slice ia m ic ∧ i ≤ q ∧ Hid (m = (idF K (FI.take i)).length) ∧ Hid (CcI w5 wr w1.heap.size (idF K (FI.take i)) (.slice ia m ic))) (fun _ s9 _ => q - (intOf s9).toNat)
  case atStart => exact ⟨0, 0, 0, some ⟨w1.heap.size, 0, none⟩, rfl, rfl, Nat.zero_le _, rfl, HI5⟩
  case round =>
    obtain ⟨i, m, ic, ia, rfl, rfl, hi, HM, HC⟩ := hrel
    have hzr := HC.out.kp.size
    by_cases hlt : i < q
    · have hlt' : (i : Int) < q := by omega
      obtain ⟨b, o, rfl, hb, hr⟩ := HF5.out.row (by rw [← HQ.out]; omega)
      obtain ⟨y, hy⟩ : ∃ y, FI[i]? = some y := ⟨FI[i]'(by rw [← HQ.out]; exact hlt), by simp [← HQ.out, hlt]⟩
      have hbne := HNE.out b o rfl
      have c1 := (HC.out.kp.cell (p := ⟨b, o + i, none⟩) hb hbne).trans (hr i y hy)
      have HTK : Hid (idF K (FI.take (i + 1)) = if y ∈ K then idF K (FI.take i) else idF K (FI.take i) ++ [y]) := by unfold Hid; rw [take_snoc hy, idF_snoc]
      have HCH := hide (hasId_any la lc K y wr (((HK.out.below HB5.out (Nat.le_refl _)).kept HC.out.kp (fun c hc => ⟨by have := HB5.out.size; omega, by have := HZ1.out; omega⟩)).mono (by have := HB5.out.size; omega)))
      rw [← HN.out] at HCH
      clear hr hy
      by_cases hin : y ∈ K
      · rw [decide_eq_true hin] at HCH
        have hTK : idF K (FI.take (i + 1)) = idF K (FI.take i) := by rw [HTK.out, if_pos hin]
        have HTK2 := hide hTK
        clear hin hTK
        go_wp2_with fail
        refine HCH.out.mono ?_
        rintro e w6 ⟨rfl, b6⟩
        have HF : Hid (CcI w5 w6 w1.heap.size (idF K (FI.take (i + 1))) (.slice ia m ic)) := by
          unfold Hid
          rw [HTK2.out]
          have k6 : Kept (fun _ => True) wr w6 := Kept.of_below b6 (fun c hc _ => hc)
          exact ⟨HC.out.ir.kept k6 (fun _ _ => trivial), HC.out.kp.trans (k6.mono (fun _ _ _ => trivial)), HC.out.ob⟩
        have HM2 : Hid (m = (idF K (FI.take (i + 1))).length) := by unfold Hid; rw [HTK2.out]; exact HM.out
        clear b6
        go_wp2_with fail
        go_roundw
        case rel => exact ⟨i + 1, m, ic, ia, by go_num, rfl, by omega, HM2, HF⟩
        case measure => simp [intOf]; omega
      · rw [decide_eq_false hin] at HCH
        have hTK : idF K (FI.take (i + 1)) = idF K (FI.take i) ++ [y] := by rw [HTK.out, if_neg hin]
        have HTK2 := hide hTK
        have hml : (idF K (FI.take i)).length ≤ 20000 := Nat.le_trans (idF_len _ _) (by have := List.length_take_le i FI; have := HQ.out; omega)
        clear hin hTK
        go_wp2_with fail
        refine HCH.out.mono ?_
        rintro e w6 ⟨rfl, b6⟩
        have k6 : Kept (fun _ => True) wr w6 := Kept.of_below b6 (fun c hc _ => hc)
        have c2 := (k6.cell (p := ⟨b, o + i, none⟩) (by show b < _; omega) trivial).trans c1
        have HI6 := hide ((HC.out.ir.kept k6 (fun _ _ => trivial)).alloc (.cells #[.int .i64 y] 2))
        have hz6 := k6.size
        have hw16 : w1.heap.size ≤ w6.heap.size := by have := HZ3.out; omega
        have HFN : Hid (∀ b7 cap7 w7, IR w1.heap.size w7 (.slice (some ⟨b7, 0, none⟩) ((idF K (FI.take i)).length + 1) cap7) (idF K (FI.take i) ++ [y]) → (w6.alloc (.cells #[.int .i64 y] 2)).grownBy w7 (Value.slice ia m ic).ownBlock → ((Value.slice ia m ic).ownBlock = some b7 ∨ b7 = (w6.alloc (.cells #[.int .i64 y] 2)).heap.size) →
            CcI w5 w7 w1.heap.size (idF K (FI.take (i + 1))) (.slice (some ⟨b7, 0, none⟩) ((idF K (FI.take i)).length + 1) cap7) ∧ (idF K (FI.take i)).length + 1 = (idF K (FI.take (i + 1))).length) := by
          intro b7 cap7 w7 hR7 hg7 hat7
          rw [HTK2.out]
          have hob := HC.out.ob
          refine ⟨⟨hR7, ?_, fun c hc => ?_⟩, by simp⟩
          · have k7 : Kept (fun c => (Value.slice ia m ic).ownBlock ≠ some c) (w6.alloc (.cells #[.int .i64 y] 2)) w7 := Kept.grown hg7 (fun c e h => h e)
            have k67 := ((k6.trans (Kept.alloc _ _ (.cells #[.int .i64 y] 2))).mono (T := fun c => (Value.slice ia m ic).ownBlock ≠ some c) (fun _ _ _ => trivial)).trans k7
            exact HC.out.kp.then k67 (fun c hc hne h => by
              rcases hob c h with h1 | h1
              · exact hne h1
              · omega)
          · have e : b7 = c := Option.some.inj hc
            subst e
            rcases hat7 with h | h
            · exact hob _ h
            · rw [World.size_alloc] at h
              exact .inr (by omega)
        clear b6 k6 c1
        go_wp2_with (at_builtin; refine ir_step 34 Try.underlying34 rfl _ _ rfl w1.heap.size _ (.slice ia m ic) (idF K (FI.take i)) y ⟨w6.heap.size, 0, none⟩ rfl rfl (by simp; omega) HI6.out (cell_new w6 _ 2) (by omega) ?_; intro b7 cap7 w7 hR7 hg7 hat7 hlt7; have HF2 := hide (HFN.out b7 cap7 w7 hR7 hg7 hat7); clear hR7 hg7 hat7 hlt7)
        go_roundw
        case rel => exact ⟨i + 1, _, cap7, some ⟨b7, 0, none⟩, by go_num, rfl, by omega, HF2.out.2, HF2.out.1⟩
        case measure => simp [intOf]; omega
    · have hlt' : ¬ (i : Int) < q := by omega
      obtain rfl : i = q := by omega
      have hTA := take_all FI HQ.out
      rw [hTA, ← HL.out] at HC HM
      rw [← HCN.out] at HM
      obtain rfl : m = cn := HM.out
      clear hTA HM
      have HIS : Hid (IS wr wr.heap.size ia ic L) := by
        have h := HC.out.ir
        rw [HCN.out] at h
        exact h.is HLW.out
      have HB6 : Hid (Below w.heap.size w wr) := Below.kept HB5.out HC.out.kp (fun c hc => by have := HZ1.out; omega) (Nat.le_refl _)
      have HPa := hide (places_any _ ks (Nat.lt_succ_self _) k ix nm L ia ic 1 wr.heap.size wr a cap (Nat.le_refl _) (by omega) (by omega) HIS.out hk hix hnm ((HS.out.below HB6.out (fun _ x => x)).mono (fun b x => by have := HB6.out.size; omega)) HGD.out)
      unfold nodeV at HPa
      rw [← HCN.out] at HPa
      have HQ1d := hide (HQ1c.out.kept HC.out.kp (by have := HZ1.out; omega))
      have HQ4d := hide (HQ4c.out.kept HC.out.kp (by have := HZ1.out; omega))
      obtain ⟨-, x0, xi, x1, x2, -, -, -, -⟩ := HQ1d.out
      go_wp2_with fail
      refine HPa.out.mono ?_
      rintro e w9 ⟨v9, rfl, d, rfl, sd, od, b9⟩
      unfold Nd.v nodeV
      have hsd : d.fo.sim ((Fo.cons k ix nm none 0 ks .nil).wc L) := sd.trans (wc_sim ⟨rfl, rfl, rfl, Fo.sim.refl _, trivial⟩)
      have HSD := hide hsd
      have HOD := hide od
      have hz9 := b9.size
      have k9 : Kept (fun _ => True) wr w9 := Kept.of_below b9 (fun c hc _ => hc)
      have HIS9 := hide (HIS.out.kept k9 (fun c hc => ⟨hc, trivial⟩))
      have HQ4e := hide (HQ4d.out.kept k9 trivial)
      have HB9 := hide (Below.kept HB6.out k9 (fun _ _ => trivial) (Nat.le_refl _))
      have HP9 := hide (HP.out.below HB9.out (Nat.le_refl _))
      have HLO : Hid (w.heap.size + 1 + 1 ≤ wr.heap.size) := by have := HZ1.out; have := HZ3.out; unfold Hid; omega
      have HI0 : Hid (CdI w9 (w9.alloc (.cells #[.int .i64 (m : Int), .slice none 0 0, .int .i64 d.k, .int .i64 d.ix, .string d.nm, .slice d.a d.ks.len d.cap] 51)) w9.heap.size m d (.slice none 0 0) (pls L (P.take 0))) := ⟨Box6.new _ _ _ _ _ _ _ _, PdR.nil _ _, Kept.alloc _ _ _⟩
      clear sd od b9 k9 hsd HPa HQ1d HQ4d HQ1c HQ4c HC HB6 HIS x0 xi x1 x2
      go_upto_region 11 with fail
      generalize w9.alloc (.cells #[.int .i64 (m : Int), .slice none 0 0, .int .i64 d.k, .int .i64 d.ix, .string d.nm, .slice d.a d.ks.len d.cap] 51) = wT at *
      go_wp2_with fail
      go_loopw [11] (fun s11 wy => ∃ (i2 vn vc : Nat) (va : Option Addr), s11 = .int .i64 i2 ∧ i2 ≤ pn ∧ Hid (CdI w9 wy w9.heap.size m d (.slice va vn vc) (pls L (P.take i2)))) (fun s11 _ => pn - (intOf s11).toNat)
      case atStart => exact ⟨0, 0, 0, none, rfl, Nat.zero_le _, HI0⟩
      case round =>
        rename World => wy
        obtain ⟨i2, vn, vc, va, rfl, hi2, HC⟩ := hrel
        by_cases hlt2 : i2 < pn
        · have hlt2' : (i2 : Int) < pn := by omega
          obtain ⟨b, o, rfl, hb, hr⟩ := HP9.out.row (by rw [← HPN.out]; omega)
          obtain ⟨p, hp⟩ : ∃ p, P[i2]? = some p := ⟨P[i2]'(by rw [← HPN.out]; exact hlt2), by simp [← HPN.out, hlt2]⟩
          have hpok := HP9.out.ok p (List.mem_of_getElem? hp)
          have HR : Hid (w9.cell? ⟨b, o + i2 * 2, none⟩ = some (.string p.nm) ∧ w9.cell? ⟨b, o + i2 * 2 + 1, none⟩ = some (.int .i64 p.sd)) := hr i2 p hp
          have HTK : Hid (pls L (P.take (i2 + 1)) = pst L (pls L (P.take i2)) p) := by unfold Hid; rw [take_snoc hp, pls_snoc]
          have HOk := hide (pls_ok (L := L) (P := P.take i2) (by omega) (fun x hx => HP9.out.ok x (List.mem_of_mem_take hx)))
          have HOl : Hid ((pls L (P.take i2)).length ≤ 1048576) := by have h1 := pls_len L (P.take i2); have h2 := List.length_take_le i2 P; have h3 := HPN.out; unfold Hid; omega
          have hb9 : b < w9.heap.size := by have := HB9.out.size; omega
          clear hr hp
          obtain ⟨OUT, hOUT⟩ : ∃ OUT, OUT = pls L (P.take i2) := ⟨_, rfl⟩
          rw [← hOUT] at HC HTK HOk HOl
          clear hOUT
          have HC0 : Hid (CdI w9 wy w9.heap.size m d (.slice va vn vc) (pst (L.take 0) OUT p)) := by unfold Hid; simpa [pst] using HC.out
          go_upto_region 14 with fail
          go_wp2_with fail
          go_loopw [12] (fun s12 wz => ∃ (k3 vn vc : Nat) (va : Option Addr), s12 = .int .i64 k3 ∧ k3 ≤ m ∧ Hid (CdI w9 wz w9.heap.size m d (.slice va vn vc) (pst (L.take k3) OUT p))) (fun s12 _ => m - (intOf s12).toNat)
          case atStart => exact ⟨0, vn, vc, va, rfl, Nat.zero_le _, HC0⟩
          case round =>
            rename World => wz
            obtain ⟨k3, vn3, vc3, va3, rfl, hk3, HD⟩ := hrel
            by_cases hlt3 : k3 < m
            · have hlt3' : (k3 : Int) < m := by omega
              obtain ⟨bI, oI, rfl, hbI, hrI⟩ := HIS9.out.row (by rw [← HCN.out]; omega)
              obtain ⟨y, hy⟩ : ∃ y, L[k3]? = some y := ⟨L[k3]'(by rw [← HCN.out]; exact hlt3), by simp [← HCN.out, hlt3]⟩
              have HRI : Hid (w9.cell? ⟨bI, oI + k3, none⟩ = some (.int .i64 y)) := hrI k3 y hy
              have hbI9 : bI < w9.heap.size := by omega
              have HY := hide hy
              clear hrI hy
              have ha1 := (HD.out.kp.cell (p := ⟨b, o + i2 * 2, none⟩) hb9 hb9).trans HR.out.1
              have HKA : Hid (Kept (fun _ => True) wz (wz.alloc (.cells #[.string p.nm, .int .i64 (k3 : Int)] 115))) := Kept.alloc _ _ _
              have HXA : Hid ((wz.alloc (.cells #[.string p.nm, .int .i64 (k3 : Int)] 115)).cell? ⟨wz.heap.size, 0, none⟩ = some (.string p.nm) ∧ (wz.alloc (.cells #[.string p.nm, .int .i64 (k3 : Int)] 115)).cell? ⟨wz.heap.size, 1, none⟩ = some (.int .i64 (k3 : Int)) ∧ (wz.alloc (.cells #[.string p.nm, .int .i64 (k3 : Int)] 115)).heap.size = wz.heap.size + 1) := ⟨by simp, by simp, by simp⟩
              go_upto_region 18 with fail
              generalize wz.alloc (.cells #[.string p.nm, .int .i64 (k3 : Int)] 115) = wA at *
              have HSQ : Hid (∀ V, Kept (fun _ => True) wA V → V.cell? ⟨bI, oI + k3, none⟩ = some (.int .i64 y) ∧ V.cell? ⟨b, o + i2 * 2 + 1, none⟩ = some (.int .i64 p.sd) ∧ V.cell? ⟨w9.heap.size, 1, none⟩ = some (.slice va3 vn3 vc3) ∧ V.cell? ⟨wz.heap.size, 0, none⟩ = some (.string p.nm) ∧ V.cell? ⟨wz.heap.size, 1, none⟩ = some (.int .i64 (k3 : Int))) := fun V kV => by
                have k0 : Kept (fun c => c < w9.heap.size) w9 V := HD.out.kp.trans ((HKA.out.trans kV).mono (fun _ _ _ => trivial))
                have hzA := HXA.out.2.2
                exact ⟨(k0.cell (p := ⟨bI, oI + k3, none⟩) hbI9 hbI9).trans HRI.out, (k0.cell (p := ⟨b, o + i2 * 2 + 1, none⟩) hb9 hb9).trans HR.out.2, ((HD.out.bx.kept HKA.out trivial).kept kV trivial).cp, (kV.cell (p := ⟨wz.heap.size, 0, none⟩) (by show wz.heap.size < _; omega) trivial).trans HXA.out.1, (kV.cell (p := ⟨wz.heap.size, 1, none⟩) (by show wz.heap.size < _; omega) trivial).trans HXA.out.2.1⟩
              by_cases hyp : y = p.sd
              · have hph := pst_hit (out := OUT) HLN.out (by rw [HY.out, hyp] : L[k3]? = some p.sd)
                have HPH := hide hph
                have HDp := HD.out.pr
                rw [hph.1] at HDp
                obtain ⟨va4, vc4, e4⟩ := HDp.sl
                simp only [Value.slice.injEq] at e4
                obtain ⟨-, hvn, -⟩ := e4
                have HVN := hide hvn
                have HDP := hide HDp
                clear HDp hph va4 vc4 hvn
                have hyb : decide (y = p.sd) = true := decide_eq_true hyp
                obtain ⟨qb, hqb⟩ : ∃ qb : Bool, qb = true ↔ (⟨p.nm, (k3 : Int)⟩ : Pd) ∈ OUT := by
                  by_cases h : (⟨p.nm, (k3 : Int)⟩ : Pd) ∈ OUT
                  · exact ⟨true, by simp [h]⟩
                  · exact ⟨false, by simp [h]⟩
                have HHP : Hid (∀ V, Kept (fun _ => True) wA V → Calls Try.prog 66 #[.slice va3 vn3 vc3, .agg #[.string p.nm, .int .i64 (k3 : Int)]] V fun e w' => e = .returned (.bool qb) ∧ Kept (fun _ => True) wA w') := fun V kV => by
                  have hpr := (HDP.out.kept HKA.out (fun _ _ => trivial)).kept kV (fun _ _ => trivial)
                  obtain ⟨a4, c4, e4, hps⟩ := hpr.psl HOk.out
                  simp only [Value.slice.injEq] at e4
                  obtain ⟨rfl, -, rfl⟩ := e4
                  have h := hasPred_any va3 vc3 OUT ⟨p.nm, (k3 : Int)⟩ V hps qb hqb
                  rw [← HVN.out] at h
                  exact h.mono (fun e w' h => ⟨h.1, kV.trans (Kept.of_below h.2 (fun c hc _ => hc))⟩)
                have k0' := HSQ.out wA.drew (Kept.drew _ _)
                have HKD : Hid (Kept (fun _ => True) wA wA.drew) := Kept.drew _ _
                subst hyp
                go_cut [81] (fun s81 wx => s81 = .bool (!qb) ∧ Kept (fun _ => True) wA wx)
                case first =>
                  go_region_held3 (fun V => V.cell? ⟨bI, oI + k3, none⟩ = some (.int .i64 p.sd) ∧ V.cell? ⟨b, o + i2 * 2 + 1, none⟩ = some (.int .i64 p.sd) ∧ V.cell? ⟨w9.heap.size, 1, none⟩ = some (.slice va3 vn3 vc3) ∧ V.cell? ⟨wz.heap.size, 0, none⟩ = some (.string p.nm) ∧ V.cell? ⟨wz.heap.size, 1, none⟩ = some (.int .i64 (k3 : Int)))
                    (first | with_reducible exact k9' | with_reducible exact k0')
                    (first
                      | (go_at_call 66; refine (HHP.out _ HKD.out).mono ?_; rintro e w9x ⟨rfl, b9x⟩; have k9' := HSQ.out w9x b9x))
                  all_goals
                    go_wp2_with fail
                    go_meet
                    case rel => exact ⟨by simp, b9x⟩
                case rest =>
                  obtain ⟨rfl, hcb⟩ := hcut
                  rename World => wx
                  have HKx := hide (HKA.out.trans hcb)
                  have HSX := hide (HSQ.out wx hcb)
                  clear hcb k0' HHP
                  cases qb with
                  | true =>
                    have HF : Hid (CdI w9 wx w9.heap.size m d (.slice va3 vn3 vc3) (pst (L.take (k3 + 1)) OUT p)) := by
                      unfold Hid
                      rw [HPH.out.2, show addP OUT ⟨p.nm, (k3 : Int)⟩ = OUT from if_pos (hqb.1 rfl)]
                      exact ⟨HD.out.bx.kept HKx.out trivial, HDP.out.kept HKx.out (fun _ _ => trivial), HD.out.kp.trans (HKx.out.mono (fun _ _ _ => trivial))⟩
                    clear hqb
                    go_wp2_with fail
                    go_roundw
                    case rel => exact ⟨k3 + 1, vn3, vc3, va3, by go_num, by omega, HF⟩
                    case measure => simp [intOf]; omega
                  | false =>
                    have hnin : (⟨p.nm, (k3 : Int)⟩ : Pd) ∉ OUT := fun h => by cases hqb.2 h
                    have HAD : Hid (pst (L.take (k3 + 1)) OUT p = OUT ++ [⟨p.nm, (k3 : Int)⟩]) := by unfold Hid; rw [HPH.out.2]; exact if_neg hnin
                    clear hqb hnin
                    obtain ⟨-, -, t1, t2, t3⟩ := HSX.out
                    have hzx := HKx.out.size
                    have hTz : w9.heap.size < wz.heap.size := HD.out.bx.lt
                    have H63 : Hid (vn3 + 1 ≤ maxLen) := by have h1 := HOl.out; have h2 := HVN.out; unfold Hid maxLen; omega
                    have hv3 : vn3 ≤ 1048576 := by have h1 := HOl.out; have h2 := HVN.out; omega
                    have HO3 : Hid ((wx.alloc (.cells #[.string p.nm, .int .i64 (k3 : Int)] 115)).ownsRow (w9.heap.size + 1) 115 2 (.slice va3 vn3 vc3) vn3 (pfl OUT)) := by
                      have h := HDP.out.kept (HKx.out.trans (Kept.alloc _ _ (.cells #[.string p.nm, .int .i64 (k3 : Int)] 115))) (fun _ _ => trivial)
                      unfold PdR at h
                      rw [← HVN.out] at h
                      exact h
                    have hob := HDP.out.lt
                    have HNT : Hid ((Value.slice va3 vn3 vc3).ownBlock ≠ some w9.heap.size) := fun h => by have := (hob _ h).1; omega
                    have HNL : Hid (∀ c, (Value.slice va3 vn3 vc3).ownBlock = some c → w9.heap.size + 1 ≤ c) := fun c hc => (hob c hc).1
                    have HK7 : Hid (∀ w7, (wx.alloc (.cells #[.string p.nm, .int .i64 (k3 : Int)] 115)).grownBy w7 (Value.slice va3 vn3 vc3).ownBlock → Kept (fun c => (Value.slice va3 vn3 vc3).ownBlock ≠ some c) wz w7) := fun w7 hG =>
                      ((HKx.out.trans (Kept.alloc _ _ _)).mono (fun _ _ _ => trivial)).trans (Kept.grown hG (fun c e h => h e))
                    have HFN : Hid (∀ g7 cp w7, w7.ownsRow (w9.heap.size + 1) 115 2 (.slice (some ⟨g7, 0, none⟩) (vn3 + 1) cp) (vn3 + 1) (pfl OUT ++ [.string p.nm, .int .i64 (k3 : Int)]) → (wx.alloc (.cells #[.string p.nm, .int .i64 (k3 : Int)] 115)).grownBy w7 (Value.slice va3 vn3 vc3).ownBlock → ((Value.slice va3 vn3 vc3).ownBlock = some g7 ∨ g7 = (wx.alloc (.cells #[.string p.nm, .int .i64 (k3 : Int)] 115)).heap.size) →
                        CdI w9 (w7.setCell ⟨w9.heap.size, 1, none⟩ (.slice (some ⟨g7, 0, none⟩) (vn3 + 1) cp)) w9.heap.size m d (.slice (some ⟨g7, 0, none⟩) (vn3 + 1) cp) (pst (L.take (k3 + 1)) OUT p)) := by
                      intro g7 cp w7 hO7 hG7 hat7
                      rw [HAD.out]
                      have k7 := HK7.out w7 hG7
                      have hbx := HD.out.bx.kept k7 HNT.out
                      have hg7 : w9.heap.size + 1 ≤ g7 := by
                        rcases hat7 with h | h
                        · exact HNL.out _ h
                        · rw [h, World.size_alloc]; omega
                      refine ⟨?_, ?_, ?_⟩
                      · obtain ⟨l, c0, c1, c2, c3, c4, c5, f0, f1, f2, f3, f4, f5⟩ := hbx
                        refine ⟨by simpa [World.setCell] using l, (World.cell?_setCell_other _ _ _ _ (by simp)).trans c0, World.cell?_setCell_same' _ _ _ (by rw [c1]; rfl), (World.cell?_setCell_other _ _ _ _ (by simp)).trans c2, (World.cell?_setCell_other _ _ _ _ (by simp)).trans c3, (World.cell?_setCell_other _ _ _ _ (by simp)).trans c4, (World.cell?_setCell_other _ _ _ _ (by simp)).trans c5, by rw [World.frozen?_setCell]; exact f0, by rw [World.frozen?_setCell]; exact f1, by rw [World.frozen?_setCell]; exact f2, by rw [World.frozen?_setCell]; exact f3, by rw [World.frozen?_setCell]; exact f4, by rw [World.frozen?_setCell]; exact f5⟩
                      · have hR : PdR (w9.heap.size + 1) w7 (.slice (some ⟨g7, 0, none⟩) (vn3 + 1) cp) (OUT ++ [⟨p.nm, (k3 : Int)⟩]) := by
                          unfold PdR
                          rw [pfl_app, List.length_append, ← HVN.out]
                          exact hO7
                        exact hR.kept (Kept.setCell (fun c => c ≠ w9.heap.size) _ _ _ (by simp)) (fun c hc => by have : g7 = c := Option.some.inj hc; omega)
                      · exact (HD.out.kp.trans (k7.mono (fun c _ hc h => by have h1 := HNL.out _ h; have h2 : c < w9.heap.size := hc; omega))).trans (Kept.setCell _ _ _ _ (by simp))
                    have HBX : Hid (∀ w7, (wx.alloc (.cells #[.string p.nm, .int .i64 (k3 : Int)] 115)).grownBy w7 (Value.slice va3 vn3 vc3).ownBlock → w7.cell? ⟨w9.heap.size, 1, none⟩ = some (.slice va3 vn3 vc3) ∧ w7.frozen? ⟨w9.heap.size, 1, none⟩ = false) := fun w7 hG => by
                      have hbx := HD.out.bx.kept (HK7.out w7 hG) HNT.out
                      exact ⟨hbx.cp, hbx.fp⟩
                    clear hob
                    go_wp2_with (at_builtin; refine U.ur_stepL rfl _ _ 49 115 rfl Try.info115 Try.underlying49 rfl (by decide) (w9.heap.size + 1) (wx.alloc (.cells #[.string p.nm, .int .i64 (k3 : Int)] 115)) (.slice va3 vn3 vc3) vn3 (pfl OUT) [.string p.nm, .int .i64 (k3 : Int)] _ _ rfl rfl (by simp; omega) HO3.out (heap_new _ _) rfl (by simp [Value.oneCell']) H63.out (by omega) ?_; intro g7 cp w7 hO7 hG7 hat7; have HF := hide (HFN.out g7 cp w7 hO7 hG7 hat7); obtain ⟨s1, s2⟩ := HBX.out w7 hG7; clear hO7 hG7 hat7)
                    go_roundw
                    case rel => exact ⟨k3 + 1, vn3 + 1, cp, some ⟨g7, 0, none⟩, by go_num, by omega, HF⟩
                    case measure => simp [intOf]; omega
              · have HF0 : Hid (∀ wx, Kept (fun _ => True) wA wx → CdI w9 wx w9.heap.size m d (.slice va3 vn3 vc3) (pst (L.take (k3 + 1)) OUT p)) := fun wx kx => by
                  rw [pst_miss HY.out hyp]
                  have kk := HKA.out.trans kx
                  exact ⟨HD.out.bx.kept kk trivial, HD.out.pr.kept kk (fun _ _ => trivial), HD.out.kp.trans (kk.mono (fun _ _ _ => trivial))⟩
                have hyb : (y == p.sd) = false := by simpa using hyp
                obtain ⟨s1, s2, s3, s4, s5⟩ := HSQ.out wA (Kept.refl _ _)
                go_cut [81] (fun s81 wx => s81 = .bool false ∧ Kept (fun _ => True) wA wx)
                case first =>
                  go_region
                  all_goals
                    go_wp2_with fail
                    go_meet
                    case rel => exact ⟨by simp, Kept.drew _ _⟩
                case rest =>
                  obtain ⟨rfl, hcb⟩ := hcut
                  rename World => wx
                  have HF := hide (HF0.out wx hcb)
                  clear hcb
                  go_wp2_with fail
                  go_roundw
                  case rel => exact ⟨k3 + 1, vn3, vc3, va3, by go_num, by omega, HF⟩
                  case measure => simp [intOf]; omega
            · have hlt3' : ¬ (k3 : Int) < m := by omega
              obtain rfl : k3 = m := by omega
              have HF : Hid (CdI w9 wz w9.heap.size k3 d (.slice va3 vn3 vc3) (pls L (P.take (i2 + 1)))) := by
                have h := HD.out
                rw [take_all L HCN.out] at h
                unfold Hid
                rw [HTK.out]
                exact h
              go_wp2_with fail
              go_roundw
              case rel => exact ⟨i2 + 1, vn3, vc3, va3, by go_num, by omega, HF⟩
              case measure => simp [intOf]; omega
        · have hlt2' : ¬ (i2 : Int) < pn := by omega
          obtain rfl : i2 = pn := by omega
          have hpr := HC.out.pr
          rw [take_all P HPN.out] at hpr
          obtain ⟨va4, vc4, e4⟩ := hpr.sl
          simp only [Value.slice.injEq] at e4
          obtain ⟨-, hvn, -⟩ := e4
          have HVN := hide hvn
          have HPR := hide hpr
          clear hpr hvn va4 vc4
          obtain ⟨hTl, t0, t1, t2, t3, t4, t5, -, -, -, -, -, -⟩ := HC.out.bx
          have hlo := HLO.out
          obtain ⟨-, y0, y1, y2, y3, y4, y5, g0, g1, g2, g3, g4, g5⟩ := HQ4e.out.kept HC.out.kp (by show w.heap.size + 1 < _; omega)
          have hne : ¬ w.heap.size + 1 = w9.heap.size := by omega
          have hne2 : ¬ w9.heap.size = w.heap.size + 1 := by omega
          go_wp2_with fail
          obtain ⟨w', hw'⟩ : ∃ w', (((((wy.setCell ⟨w.heap.size + 1, 0, none⟩ (.int .i64 (m : Int))).setCell ⟨w.heap.size + 1, 1, none⟩ (.slice va vn vc)).setCell ⟨w.heap.size + 1, 2, none⟩ (.int .i64 d.k)).setCell ⟨w.heap.size + 1, 3, none⟩ (.int .i64 d.ix)).setCell ⟨w.heap.size + 1, 4, none⟩ (.string d.nm)).setCell ⟨w.heap.size + 1, 5, none⟩ (.slice d.a d.ks.len d.cap) = w' := ⟨_, rfl⟩
          have k' : Kept (fun c => c ≠ w.heap.size + 1) wy w' := by
            rw [← hw']
            exact (((((Kept.setCell _ _ _ _ (by simp)).trans (Kept.setCell _ _ _ _ (by simp))).trans (Kept.setCell _ _ _ _ (by simp))).trans (Kept.setCell _ _ _ _ (by simp))).trans (Kept.setCell _ _ _ _ (by simp))).trans (Kept.setCell _ _ _ _ (by simp))
          refine bodyPost_ret (v := .agg #[.int .i64 (m : Int), .slice va vn vc, .int .i64 d.k, .int .i64 d.ix, .string d.nm, .slice d.a d.ks.len d.cap]) (by simp [results, Try.results30, go_sem, y0, y1, y2, y3, y4, y5]) rfl ?_
          rw [hw']
          have z' := k'.size
          have zk := HC.out.kp.size
          refine ⟨d, va, vc, by unfold schV; rw [HVN.out], HSD.out, HOD.out.keep (fun c h => ⟨by omega, by omega⟩) (fun x hx v hv => (k'.cell (p := x) (by have := hx.2; omega) (by have := hx.1; omega)).trans ((HC.out.kp.cell (p := x) hx.2 hx.2).trans hv)), ?_, ?_⟩
          · rw [← HVN.out]
            have hb5 := HPR.out.lt
            exact (HPR.out.kept k' (fun c hc => by have := (hb5 c hc).1; omega)).mono (by omega)
          · exact Below.kept HB9.out ((HC.out.kp.mono (T := fun c => c < w.heap.size) (fun c _ hc => by have : c < w.heap.size := hc; show c < w9.heap.size; omega)).trans (k'.mono (fun c _ hc => by have : c < w.heap.size := hc; omega))) (fun c hc => hc) (Nat.le_refl _)

end Go.Proofs.Ytcnbnhoeobdbnaa
