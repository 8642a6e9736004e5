import Derived.Test.YtjlefdalobgdfaaAl
namespace Go.Proofs.Ytjlefdalobgdfaa
open Go.RowKit Go.Joins Go.MapKept Go.ChangeMaps

theorem nm_nil {x : ByteArray} (h : x.toList = []) : x = ⟨#[]⟩ := by
  have h2 : x.data.toList = [] := by rw [← ByteArray.toList_eq]; exact h
  cases x with
  | mk d => 
    simp only at h2
    congr
    exact Array.toList_inj.1 (by rw [h2])

theorem RdP.ke {lo ro : Nat → Prop} {M : Nat} {env : List (Int × Nat)} {F : Fo} {W W' : World} {p : Nat} (h : RdP lo ro M env F W W' p) : Kept (fun c => c ≠ M) W W' := by
  obtain ⟨_, _, _, -, -, -, -, -, h, -⟩ := h
  exact h

set_option maxHeartbeats 4000000 in
set_option maxRecDepth 100000 in
theorem read_any : ∀ (m : Nat) (ks : Fo), ks.size < m → ∀ (k ix : Int) (nm : ByteArray) (a : Option Addr) (cap dp n0 M : Nat) (lo ro : Nat → Prop) (env : List (Int × Nat)) (W : World), n0 ≤ M → nm.size + ks.tot ≤ 1048576 → ks.Sl W (fun b => b < n0) a cap → (Fo.cons k ix nm a cap ks .nil).good dp → RdS lo ro W M env →
    Calls Try.prog 57 #[.map (some M), nodeV k ix nm a ks.len cap] W fun e W' => ∃ p, e = .returned (.pointer (some ⟨p, 0, none⟩)) ∧ RdP lo ro M env (.cons k ix nm a cap ks .nil) W W' p := by
  intro m
  induction m with
  | zero => intro F hF; omega
  | succ m ih =>
    intro ks hF k ix nm a cap dp n0 M lo ro env W hn hsz hs hgd hrd
    unfold nodeV
    have q1 := Box4.new W (.int .i64 k) (.int .i64 ix) (.string nm) (.slice a ks.len cap) 29
    have k1 : Kept (fun _ => True) W (W.alloc (.cells #[.int .i64 k, .int .i64 ix, .string nm, .slice a ks.len cap] 29)) := Kept.alloc _ _ _
    obtain ⟨W1, hW1⟩ : ∃ V, W.alloc (.cells #[.int .i64 k, .int .i64 ix, .string nm, .slice a ks.len cap] 29) = V := ⟨_, rfl⟩
    rw [hW1] at q1 k1
    have hM := hrd.rd.vm.lt
    have HQ1 := hide q1
    have HK1 := hide k1
    have HW1 := hide hW1
    obtain ⟨-, x0, xi, x1, x2, -, -, -, -⟩ := id q1
    obtain ⟨-, hok, hgk, -⟩ := hgd
    by_cases hk1 : k = 1
    · subst hk1
      obtain ⟨hnm, hl0⟩ : nm = ⟨#[]⟩ ∧ ks = .nil := by
        rcases hok with ⟨-, -, h2, h3⟩ | ⟨h, -⟩
        · refine ⟨nm_nil h2, ?_⟩
          cases ks with
          | nil => rfl
          | cons => simp [Fo.len] at h3
        · omega
      subst hnm hl0
      have HVA := hide (var_any lo M env ix W1 (hrd.rd.kept k1 trivial (fun _ _ => trivial)))
      have HRD := hide hrd
      clear q1 k1 hW1 hrd ih hs hgk hok
      go_enter Try.func57, Try.ntmps57
      go_upto_region 1 with fail
      rw [HW1.out]
      clear HW1
      go_wp2_with fail
      refine HVA.out.mono ?_
      rintro e w2 ⟨p, rfl, hi, env', hg, hx, hr, hm, hk, hkn⟩
      have HP : RdP lo ro M env (.cons 1 ix ⟨#[]⟩ a cap .nil .nil) W w2 p := by
        have hmt : ∀ c, Ty W1 c 96 → c ≠ M := fun c hc e => map_ty (HRD.out.rd.vm.kept HK1.out trivial) (e ▸ hc)
        exact ⟨hi, ro, env', .var hg .nil, hx, ⟨hr, fun b hb => hk.ty (HK1.out.ty (HRD.out.ro b hb) trivial) (hmt b (HK1.out.ty (HRD.out.ro b hb) trivial))⟩, ⟨hm.up, fun f hf => by rcases hm.nw f hf with h | h; exact .inl h; exact .inr (by have := HK1.out.size; omega)⟩, Mor.refl _ _, (HK1.out.mono (fun _ _ _ => trivial)).trans hk, fun y hy => by rcases hkn y hy with h | h; exact .inl h; exact .inr (by simp [Fo.vs, h])⟩
      clear hg hx hr hm hk hkn
      go_wp2_with fail
      go_ret
      first | exact ⟨p, rfl, HP⟩ | exact HP
    · have hkb : (k == 1) = false := by simpa using hk1
      have HCl : Hid (∀ w2, Kept (fun _ => True) W1 w2 → Calls Try.prog 81 #[.string nm] w2 fun e w' => ∃ v, e = .returned v ∧ (v = .string nm ∧ Below w2.heap.size w2 w')) := fun w2 _ => (iClone nm w2 (by omega)).mono (fun e w' h => ⟨_, h.1, rfl, h.2⟩)
      have HIH := hide ih
      have HGK := hide hgk
      have HS := hide hs
      have HRD := hide hrd
      have hmx : ks.len ≤ 9223372036854775807 := by have h2 := hs.1; have h3 := hs.2.1; simp only [maxLen] at h3; omega
      have hst : ks.size ≤ ks.tot := ks.size_le
      have hz1 : W.heap.size < W1.heap.size := q1.lt
      clear q1 k1 hW1 hrd ih hs hgk hok
      go_enter Try.func57, Try.ntmps57
      go_upto_region 1 with fail
      rw [HW1.out]
      clear HW1
      go_upto_region 3 with fail
      go_cut [5] (fun s5 wx => ∃ T, s5 = .pointer (some ⟨T, 0, none⟩) ∧ NT wx T k ix nm (.slice none 0 0) ∧ Kept (fun _ => True) W1 wx ∧ W1.heap.size ≤ T)
      case first =>
        go_region_law (refine step_call (by rfl) 81 #[.string nm] (by simp [go_sem]) _ (HCl.out _ ⟨rfl, rfl, rfl, Nat.le_refl _, fun _ _ _ => rfl⟩) ?_; rintro v5 w5 ⟨rfl, b5⟩; have HK5 : Hid (Kept (fun _ => True) W1 w5) := ⟨b5.os, b5.tape, b5.output, b5.size, fun c hc _ => b5.block c hc⟩; obtain ⟨-, p0, pi, p1, p2, s0, si, s1, s2⟩ := HQ1.out.kept HK5.out trivial; clear b5)
        all_goals
          go_wp2_with fail
          go_meet
          case rel => exact ⟨w5.heap.size, rfl, new_nt _ _ _ _, HK5.out.trans (Kept.alloc _ _ _), HK5.out.size⟩
      case rest =>
        obtain ⟨T, rfl, hT, hkx, hTl⟩ := hcut
        rename World => W0
        have kW0 : Kept (fun _ => True) W W0 := HK1.out.trans hkx
        have hI0 : RdI lo ro M env W W0 T k ix nm a ks n0 0 .nil ks (.slice none 0 0) [] lo ro env :=
          ⟨rfl, rfl, rfl, by omega, hT, PR.nil _ _, .nil, HRD.out.kept kW0 trivial (fun _ _ => trivial) (fun _ _ => trivial), fun f hf => (by have := (HRD.out.rd.zr f hf).1.lt; omega), fun f _ h => (by cases h), Ext.refl _, fun _ h => .inl h, Mor.refl _ _, Mor.refl _ _, kW0.mono (fun _ _ _ => trivial), fun hl => (HS.out.kept kW0 (fun b x => ⟨trivial, by omega⟩)).2.2 hl⟩
        have HI0 := hide hI0
        obtain ⟨-, x0, xi, x1, x2, -, -, -, -⟩ := HQ1.out.kept hkx trivial
        clear hI0 hT hkx kW0 HCl HK1 HQ1
        go_wp2_with fail
        go_loopw [28] (fun s28 wr => ∃ (i : Nat) (Fp r : Fo) (pa : Option Addr) (pc : Nat) (qs : List Nat) (hi ho : Nat → Prop) (env' : List (Int × Nat)), s28 = .int .i64 i ∧ i ≤ ks.len ∧ Hid (RdI lo ro M env W wr T k ix nm a ks n0 i Fp r (.slice pa i pc) qs hi ho env') ∧ Hid (r.good (dp + 1))) (fun s28 _ => ks.len - (intOf s28).toNat)
        case atStart => exact ⟨0, .nil, ks, none, 0, [], lo, ro, env, rfl, Nat.zero_le _, HI0.out, HGK.out⟩
        case round =>
          obtain ⟨i, Fp, r, pa, pc, qs, hi, ho, env', rfl, hile, HI, HPR⟩ := hrel
          have hlen : i + r.len = ks.len := by have h1 := HI.out.app; have h2 := HI.out.len; rw [← h1, Fo.app_len, h2]
          have hTl2 := HI.out.tl
          cases r with
          | nil =>
            simp only [Fo.len] at hlen
            have hlt' : ¬ (i : Int) < ks.len := by omega
            have HP := HI.out.done (cap := cap) hk1
            go_wp2_with fail
            go_ret
            first | exact ⟨T, rfl, HP⟩ | exact HP
          | cons k' ix' nm' ka kcap ks' r =>
            simp only [Fo.len] at hlen
            have hlt' : (i : Int) < ks.len := by omega
            obtain ⟨b, o, rfl, hb, hk', hix', hnm', c1, ci, c2, c3, h4, h5, h6, h7⟩ := HI.out.row (by simp [Fo.len])
            have hszr : Fp.size + (1 + ks'.size + r.size) = ks.size := by have h1 := HI.out.app; rw [← h1, Fo.app_size]; rfl
            have htot : Fp.tot + (1 + nm'.size + ks'.tot + r.tot) = ks.tot := by have h1 := HI.out.app; rw [← h1, Fo.app_tot]; rfl
            have hks : ks'.Sl wr (fun b => b < n0) ka kcap := ⟨h4, h5, h6⟩
            have hwr : T < wr.heap.size := HI.out.nt.ty.lt
            have hWr := HI.out.ke.size
            have kA : Kept (fun _ => True) wr (wr.alloc (.cells #[.int .i64 k', .int .i64 ix', .string nm', .slice ka ks'.len kcap] 29)) := Kept.alloc _ _ _
            have xA := Box4.new wr (.int .i64 k') (.int .i64 ix') (.string nm') (.slice ka ks'.len kcap) 29
            obtain ⟨wa, hwa⟩ : ∃ wa, wr.alloc (.cells #[.int .i64 k', .int .i64 ix', .string nm', .slice ka ks'.len kcap] 29) = wa := ⟨_, rfl⟩
            rw [hwa] at kA xA
            have HCB : Hid (∀ W2, Kept (fun _ => True) wa W2 → Calls Try.prog 57 #[.map (some M), .agg #[.int .i64 k', .int .i64 ix', .string nm', .slice ka ks'.len kcap]] W2 fun e w' => ∃ v', e = .returned v' ∧ ∃ p, v' = .pointer (some ⟨p, 0, none⟩) ∧ RdP hi ho M env' (.cons k' ix' nm' ka kcap ks' .nil) W2 w' p) := fun W2 kW => by
              have kW2 := kA.trans kW
              have h1 := HIH.out ks' (by omega) k' ix' nm' ka kcap (dp + 1) n0 M hi ho env' W2 hn (by omega) (hks.kept kW2 (fun b x => ⟨trivial, by omega⟩)) ⟨HPR.out.1, HPR.out.2.1, HPR.out.2.2.1, trivial⟩ (HI.out.rs.kept kW2 trivial (fun _ _ => trivial) (fun _ _ => trivial))
              unfold nodeV at h1
              exact h1.mono (fun e w' ⟨p, h2, h3⟩ => ⟨_, h2, p, rfl, h3⟩)
            have HLN := hide HI.out.kl
            have HLK : Hid (qs.length < 2097152) := by unfold Hid; rw [HLN.out]; have := ks.len_le; omega
            have HPB : Hid (∀ c, (Value.slice pa i pc).ownBlock = some c → T + 1 ≤ c ∧ Ty wr c 96) := HI.out.pr.blk
            have HMN : Hid (∀ c t, Ty wr c t → c ≠ M) := fun c t hc e => map_ty HI.out.rs.rd.vm (e ▸ hc)
            have HNB : Hid (∀ W2 ob, Kept (fun c => c ≠ M) wr W2 → PR (T + 1) (W2.alloc ob) (.slice pa i pc) qs) := fun W2 ob kW => HI.out.pr.kept (kW.trans (Kept.alloc _ _ _)) (fun c hc => HMN.out c _ (HPB.out c hc).2)
            have HNT := hide HI.out.nt
            have HTM : Hid (T ≠ M) := HMN.out T _ HNT.out.ty
            have H7 := hide h7
            have hne5 : (Value.slice pa i pc).ownBlock ≠ some T := fun h => by have := (HPB.out _ h).1; omega
            have HNE := hide hne5
            have HSG : Hid (∀ W2 ob W7, Kept (fun c => c ≠ M) wr W2 → (W2.alloc ob).grownBy W7 (Value.slice pa i pc).ownBlock → Kept (fun c => c ≠ M ∧ (Value.slice pa i pc).ownBlock ≠ some c) wr W7) := fun W2 ob W7 kW hg =>
              ((kW.trans (Kept.alloc _ _ _)).mono (fun _ _ h => h.1)).trans (Kept.grown hg (fun c e h => h.2 e))
            have FIN : Hid (∀ (w4 w5 : World) (p : Nat) (ob : Obj) (g7 cp : Nat) (w7 : World), Kept (fun _ => True) wr w4 → RdP hi ho M env' (.cons k' ix' nm' ka kcap ks' .nil) w4 w5 p → PR (T + 1) w7 (.slice (some ⟨g7, 0, none⟩) (i + 1) cp) (qs ++ [p]) →
                (w5.alloc ob).grownBy w7 (Value.slice pa i pc).ownBlock → ((Value.slice pa i pc).ownBlock = some g7 ∨ g7 = (w5.alloc ob).heap.size) →
                ∃ hi2 ho2 env2, RdI lo ro M env W (w7.setCell ⟨T, 4, none⟩ (.slice (some ⟨g7, 0, none⟩) (i + 1) cp)) T k ix nm (some ⟨b, o, none⟩) ks n0 (i + 1) (Fp.app (.cons k' ix' nm' ka kcap ks' .nil)) r (.slice (some ⟨g7, 0, none⟩) (i + 1) cp) (qs ++ [p]) hi2 ho2 env2) := by
              intro w4 w5 p ob g7 cp w7 k4 ⟨hi2, ho2, env2, rl5, ex5, rs5, mh5, mo5, k45, kn5⟩ hR7 hG7 hat7
              obtain ⟨w8, hw8⟩ : ∃ w8, w7.setCell ⟨T, 4, none⟩ (.slice (some ⟨g7, 0, none⟩) (i + 1) cp) = w8 := ⟨_, rfl⟩
              have z4 := k4.size
              have k5 : Kept (fun c => c ≠ M) wr w5 := (k4.mono (fun _ _ _ => trivial)).trans k45
              have z5 := k5.size
              have k57 : Kept (fun c => (Value.slice pa i pc).ownBlock ≠ some c) w5 w7 := (Kept.alloc _ _ _).trans (Kept.grown hG7 (fun c e h => h e))
              have k8 : Kept (fun c => c ≠ T) w7 w8 := by rw [← hw8]; exact Kept.setCell _ _ _ _ (by simp)
              have z7 := k57.size
              have k58 : Kept (fun c => (Value.slice pa i pc).ownBlock ≠ some c ∧ c ≠ T) w5 w8 := (k57.mono (fun c _ h => h.1)).trans (k8.mono (fun c _ h => h.2))
              have k08 : Kept (fun c => c ≠ M ∧ (Value.slice pa i pc).ownBlock ≠ some c ∧ c ≠ T) wr w8 := (k5.mono (fun c _ h => h.1)).trans (k58.mono (fun c _ h => h.2))
              have hn2 : ∀ f, hi2 f → f ≠ T := fun f hf e => by
                rcases mh5.nw f hf with h | h
                · exact HI.out.hn f h e
                · omega
              have hb2 : ∀ f, ho2 f → (Value.slice pa i pc).ownBlock ≠ some f := fun f hf e => by
                rcases mo5.nw f hf with h | h
                · exact HI.out.hb f h e
                · have := (HPB.out f e).2.lt
                  omega
              have hb3 : ∀ f, ho2 f → (Value.slice (some ⟨g7, 0, none⟩) (i + 1) cp).ownBlock ≠ some f := fun f hf e => by
                have e1 : g7 = f := Option.some.inj e
                rcases hat7 with h | h
                · exact hb2 f hf (by rw [h, e1])
                · have := (rs5.ro f hf).lt
                  rw [World.size_alloc] at h
                  omega
              have hib : ∀ f, hi2 f → (Value.slice pa i pc).ownBlock ≠ some f := fun f hf e => by
                have h1 := (rs5.rd.zr f hf).1
                have h2 := (HPB.out f e).2
                have h3 := k5.ty h2 (HMN.out f _ h2)
                exact absurd (h1.uniq h3) (by decide)
              have hoT : ∀ f, ho2 f → f ≠ T := fun f hf e => by
                have h1 := rs5.ro f hf
                have h3 := k5.ty HNT.out.ty HTM.out
                rw [e] at h1
                exact absurd (h1.uniq h3) (by decide)
              have hMb : (Value.slice pa i pc).ownBlock ≠ some M := fun e => HMN.out M _ (HPB.out M e).2 rfl
              have hg7 : T + 1 ≤ g7 := by
                rcases hat7 with h | h
                · exact (HPB.out _ h).1
                · rw [h, World.size_alloc]; omega
              have hlow : ∀ c, c ≠ M → c < T → c ≠ M ∧ (Value.slice pa i pc).ownBlock ≠ some c ∧ c ≠ T := fun c hm hc => ⟨hm, fun h => by have := (HPB.out _ h).1; omega, by omega⟩
              have hnt7 : NT w7 T k ix nm (.slice pa i pc) := (HNT.out.kept k5 HTM.out).kept k57 HNE.out
              refine ⟨hi2, ho2, env2, ?_⟩
              rw [hw8]
              refine ⟨by rw [Fo.app_assoc]; exact HI.out.app, by rw [Fo.app_len, HI.out.len]; rfl, by rw [List.length_append, HI.out.kl]; rfl, HI.out.tl, by rw [← hw8]; exact hnt7.set _, hR7.kept k8 (fun c hc => by have : g7 = c := Option.some.inj hc; omega), ?_, rs5.kept k58 ⟨hMb, fun e => HTM.out e.symm⟩ (fun f hf => ⟨hib f hf, hn2 f hf⟩) (fun f hf => ⟨hb2 f hf, hoT f hf⟩), hn2, hb3, HI.out.ext.trans ex5, ?_, HI.out.mh.trans mh5 (by omega), HI.out.mo.trans mo5 (by omega), ?_, fun _ => ⟨b, o, rfl, hb, ?_⟩⟩
              · refine RdL.kept k58 (fun f hf => ⟨hib f hf, hn2 f hf⟩) (fun f hf => ⟨hb2 f hf, hoT f hf⟩) (RdL.app ?_ rl5)
                have r1 := RdL.kept k5 (fun f hf => HMN.out f _ (HI.out.rs.rd.zr f hf).1) (fun f hf => HMN.out f _ (HI.out.rs.ro f hf)) HI.out.rl
                exact r1.mono mh5.up mo5.up ex5
              · intro y hy
                rw [Fo.vs_app, List.mem_append]
                rcases kn5 y hy with h1 | h1
                · rcases HI.out.kn y h1 with h2 | h2
                  · exact .inl h2
                  · exact .inr (.inl h2)
                · exact .inr (.inr h1)
              · exact HI.out.ke.trans (k08.mono (fun c _ h => hlow c h.1 (by have := h.2; omega)))
              · have e : o + (i + 1) * 4 = o + i * 4 + 4 := by omega
                rw [e]
                exact H7.out.keep (fun _ x => x) (fun p hp v hv => (k08.cell (p := p) (by have : p.block < n0 := hp; omega) (hlow _ (by have : p.block < n0 := hp; omega) (by have : p.block < n0 := hp; omega))).trans hv) (fun j _ _ v hv => (k08.cell (p := ⟨b, j, none⟩) (by show b < _; omega) (hlow _ (by show b ≠ _; omega) (by show b < _; omega))).trans hv)
            have HPR2 : Hid (r.good (dp + 1)) := HPR.out.2.2.2
            have HKA := hide kA
            have HXA := hide xA
            clear hks h4 h5 h6 h7 hne5 kA xA
            go_upto_region 7 with fail
            clear hwa
            obtain ⟨-, u0, ui, u1, u2, -, -, -, -⟩ := HXA.out
            have p4 := (HNT.out.kept HKA.out trivial).c4
            have pf := (HNT.out.kept HKA.out trivial).ty.live 4
            go_region_law (first
              | (refine step_call (by rfl) 57 #[.map (some M), .agg #[.int .i64 k', .int .i64 ix', .string nm', .slice ka ks'.len kcap]] (by simp [go_sem]) _ (HCB.out _ ⟨rfl, rfl, rfl, Nat.le_refl _, fun _ _ _ => rfl⟩) ?_; rintro v5 w5 ⟨p, rfl, hp5⟩; have HK4 : Hid (∃ w4, Kept (fun _ => True) wr w4 ∧ RdP hi ho M env' (.cons k' ix' nm' ka kcap ks' .nil) w4 w5 p) := (by refine ⟨_, ?_, hp5⟩; exact HKA.out.trans ⟨rfl, rfl, rfl, Nat.le_refl _, fun _ _ _ => rfl⟩); clear hp5; have HK5 : Hid (Kept (fun c => c ≠ M) wr w5) := HK4.out.elim (fun w4 h => (h.1.mono (fun _ _ _ => trivial)).trans h.2.ke); have p4 := (HNT.out.kept HK5.out HTM.out).c4; have pb : (w5.alloc (.cells #[.pointer (some ⟨p, 0, none⟩)] 96)).cell? ⟨T, 4, none⟩ = some (.slice pa i pc) := ((HNT.out.kept HK5.out HTM.out).kept (Kept.alloc (fun _ => True) _ _) trivial).c4)
              | (refine pr_draw (by rfl) _ _ (by rfl) (T + 1) _ (.slice pa i pc) qs p _ _ i HLN.out (by rfl) (HNB.out _ _ HK5.out) (by rfl) (heap_new _ _) (by have := HK5.out.size; simp; omega) HLK.out ?_; intro g7 cp w7 hR7 hG7 hat7; have HK7 := hide (HSG.out _ _ _ HK5.out hG7); have p4 := (HNT.out.kept HK7.out ⟨HTM.out, HNE.out⟩).c4; have pf := (HNT.out.kept HK7.out ⟨HTM.out, HNE.out⟩).ty.live 4))
            all_goals
              obtain ⟨hi2, ho2, env2, HF⟩ : ∃ hi2 ho2 env2, Hid (RdI lo ro M env W (w7.setCell ⟨T, 4, none⟩ (.slice (some ⟨g7, 0, none⟩) (i + 1) cp)) T k ix nm (some ⟨b, o, none⟩) ks n0 (i + 1) (Fp.app (.cons k' ix' nm' ka kcap ks' .nil)) r (.slice (some ⟨g7, 0, none⟩) (i + 1) cp) (qs ++ [p]) hi2 ho2 env2) := HK4.out.elim (fun w4 h => FIN.out _ _ _ _ _ _ _ h.1 h.2 hR7 hG7 hat7)
              clear hR7 hG7 hat7 HK7
              go_wp2_with fail
              go_roundw
              case rel => exact ⟨i + 1, _, r, _, _, _, hi2, ho2, env2, by go_num, by omega, HF.out, HPR2.out⟩
              case measure => simp [intOf]; omega

end Go.Proofs.Ytjlefdalobgdfaa
