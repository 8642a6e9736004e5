import Derived.Test.YtjlefdalobgdfaaAg
namespace Go.Proofs.Ytjlefdalobgdfaa
open Go.RowKit Go.Joins

/-- Numbers and names are sound. -/
def Fo.wfs : Fo → Prop
  | .nil => True
  | .cons k ix nm _ _ ks r => (Lit.int .i64 k).wf = true ∧ (Lit.int .i64 ix).wf = true ∧ nm.size ≤ maxLen ∧ ks.wfs ∧ r.wfs

/-- What the loop of the program's outside knows; T: the block of what is made. -/
structure OuI (W wr : World) (T : Nat) (k ix : Int) (nm : ByteArray) (ks : Fo) (i : Nat) (Fp r : Fo) (v : Value) (K : List Nd) : Prop where
  app : Fp.app r = ks
  len : Fp.len = i
  kl : K.length = i
  tl : W.heap.size < T
  q4 : Box4 wr W.heap.size (.int .i64 0) (.int .i64 0) (.string ⟨#[]⟩) (.slice none 0 0)
  q5 : Box4 wr T (.int .i64 k) (.int .i64 ix) (.string nm) v
  nr : NR (T + 1) wr v K
  ok : ∀ d ∈ K, d.Ok wr (fun c => T + 1 ≤ c ∧ c < wr.heap.size ∧ v.ownBlock ≠ some c)
  sim : (Fo.ofl K).sim Fp
  nd : (Fo.ofl K).inn.Nodup
  lv : Live wr (Fo.ofl K).inn
  be : Below W.heap.size W wr

set_option maxHeartbeats 4000000 in
set_option maxRecDepth 100000 in
theorem out_any (lo : Nat → Prop) : ∀ (m : Nat) (ks : Fo), ks.size < m → ∀ (k ix : Int) (nm : ByteArray) (a' : Option Addr) (cap' p : Nat) (W : World), ks.size ≤ 1048576 → (Fo.cons k ix nm a' cap' ks .nil).wfs → NvL lo W [p] (.cons k ix nm a' cap' ks .nil) →
    Calls Try.prog 59 #[.pointer (some ⟨p, 0, none⟩)] W fun e W' => ∃ v', e = .returned v' ∧ ∃ d : Nd, v' = d.v ∧ d.fo.sim (.cons k ix nm a' cap' ks .nil) ∧ d.Ok W' (fun c => W.heap.size ≤ c ∧ c < W'.heap.size) ∧
      (blk d.a d.ks.len ++ d.ks.inn).Nodup ∧ Live W' (blk d.a d.ks.len ++ d.ks.inn) ∧ Below W.heap.size W W' := by
  intro m
  induction m with
  | zero => intro F hF; omega
  | succ m ih =>
    intro ks hF k ix nm a' cap' p W hsz hwf hnv
    obtain ⟨hk, hix, hnm, hwk, -⟩ := hwf
    obtain ⟨f, qs, a, cap, fn, nc, pt, h1⟩ : ∃ f qs a cap, Fn W p f ∧ NC W f k ix nm a qs.length cap ∧ Pt W a cap qs ∧ NvL lo W qs ks := by
      cases hnv with
      | cons hl fn nc pt h1 h2 => exact ⟨_, _, _, _, fn, nc, pt, h1⟩
    obtain ⟨W1, hW1⟩ : ∃ V, W.alloc (.cells #[.int .i64 0, .int .i64 0, .string ⟨#[]⟩, .slice none 0 0] 29) = V := ⟨_, rfl⟩
    have k1 : Kept (fun _ => True) W W1 := by rw [← hW1]; exact Kept.alloc _ _ _
    have q1 := Box4.new W (.int .i64 0) (.int .i64 0) (.string ⟨#[]⟩) (.slice none 0 0) 29
    rw [hW1] at q1
    have hql : qs.length = ks.len := h1.len
    have HFI := hide (find_any p f W1 (fn.sk (SK.of_kept k1)) (nc.sk (SK.of_kept k1)).ab)
    have HIH := hide ih
    have HNC := hide nc
    have HPT := hide pt
    have HPL : Hid (NvL lo W (qs.drop 0) ks ∧ ks.wfs) := ⟨by simpa using h1, hwk⟩
    have HW1 := hide hW1
    have HQ1 := hide q1
    have HK1 := hide k1
    have hmx : ks.len ≤ 9223372036854775807 := by have h2 := pt.le; have h3 := pt.mx; simp only [maxLen] at h3; omega
    clear ih hnv fn nc pt h1 hW1 q1 k1 hwk
    go_enter Try.func59, Try.ntmps59
    go_upto_region 1 with fail
    rw [HW1.out]
    clear HW1
    go_wp2_with fail
    refine HFI.out.mono ?_
    rintro e w2 ⟨rfl, rfl⟩
    have b2 := Below.refl w2.heap.size w2
    have HK2 : Hid (Kept (fun _ => True) W w2) := HK1.out.trans (kt b2)
    have q2 := HQ1.out.kept (kt (S := fun _ => True) b2) trivial
    have nc2 := HNC.out.sk (SK.of_kept HK2.out)
    have c1 := nc2.c1
    have c2 := nc2.c2
    have c3 := nc2.c3
    have HQ2 := hide q2
    have hz2 : Hid (W.heap.size < w2.heap.size) := q2.lt
    have kA : Kept (fun _ => True) w2 (w2.alloc (.cells #[.int .i64 0, .int .i64 0, .string ⟨#[]⟩, .slice none 0 0] 29)) := Kept.alloc _ _ _
    have a1 := (kA.cell (p := ⟨f, 1, none⟩) nc2.ty.lt trivial).trans c1
    have a2 := (kA.cell (p := ⟨f, 2, none⟩) nc2.ty.lt trivial).trans c2
    have a3 := (kA.cell (p := ⟨f, 3, none⟩) nc2.ty.lt trivial).trans c3
    clear b2 q2 nc2 HFI HQ1 kA
    go_upto_region 2 with fail
    go_cut [4] (fun s4 wx => ∃ T, s4 = .pointer (some ⟨T, 0, none⟩) ∧ Box4 wx T (.int .i64 k) (.int .i64 ix) (.string nm) (.slice none 0 0) ∧ Kept (fun _ => True) w2 wx ∧ w2.heap.size ≤ T)
    case first =>
      go_region
      all_goals
        go_wp2_with fail
        go_meet
        case rel => exact ⟨w2.heap.size, rfl, (Box4.new _ _ _ _ _ _).kept (Kept.drew (fun _ => True) _) trivial, (Kept.alloc _ _ _).trans (Kept.drew _ _), Nat.le_refl _⟩
    case rest =>
      obtain ⟨T, rfl, hqT, hkx, hT⟩ := hcut
      rename World => W0
      have nc3 := HNC.out.sk (SK.of_kept (HK2.out.trans hkx))
      have c4 := nc3.c4
      rw [hql] at c4
      have hI0 : OuI W W0 T k ix nm ks 0 .nil ks (.slice none 0 0) [] :=
        ⟨rfl, rfl, rfl, by have := hz2.out; omega, HQ2.out.kept hkx trivial, hqT, NR.nil _ _, fun d hd => (by cases hd), trivial, by simp [Fo.ofl, Fo.inn], fun c hc => by simp [Fo.ofl, Fo.inn] at hc, ((HK2.out.trans hkx).below (fun _ _ => trivial) (Nat.le_refl _))⟩
      have HI0 := hide hI0
      clear hqT hkx hT nc3 hI0 HQ2 c1 c2 c3
      go_wp2_with fail
      go_loopw [29] (fun s31 wr => ∃ (i : Nat) (Fp r : Fo) (pa : Option Addr) (pc : Nat) (K : List Nd), s31 = .int .i64 i ∧ i ≤ ks.len ∧ Hid (OuI W wr T k ix nm ks i Fp r (.slice pa i pc) K) ∧ Hid (NvL lo W (qs.drop i) r ∧ r.wfs)) (fun s31 _ => ks.len - (intOf s31).toNat)
      case atStart => exact ⟨0, .nil, ks, none, 0, [], rfl, Nat.zero_le _, HI0.out, HPL.out⟩
      case round =>
        obtain ⟨i, Fp, r, pa, pc, K, rfl, hi, HI, HPR⟩ := hrel
        have hlen : i + r.len = ks.len := by have h1 := HI.out.app; have h2 := HI.out.len; rw [← h1, Fo.app_len, h2]
        obtain ⟨-, z0, zi, z1, z2, g0, gi, g1, g2⟩ := HI.out.q4
        obtain ⟨-, p0, pi, p1, p2, f0, fi, f1, f2⟩ := HI.out.q5
        have hTl := HI.out.tl
        cases r with
        | nil =>
          simp only [Fo.len] at hlen
          have hlt' : ¬ (i : Int) < ks.len := by omega
          go_wp2_with fail
          obtain ⟨w3, hw3⟩ : ∃ w3, (((wr.setCell ⟨W.heap.size, 0, none⟩ (.int .i64 k)).setCell ⟨W.heap.size, 1, none⟩ (.int .i64 ix)).setCell ⟨W.heap.size, 2, none⟩ (.string nm)).setCell ⟨W.heap.size, 3, none⟩ (.slice pa i pc) = w3 := ⟨_, rfl⟩
          have k3 : Kept (fun c => c ≠ W.heap.size) wr w3 := by
            rw [← hw3]
            exact (((Kept.setCell _ _ _ _ (by simp)).trans (Kept.setCell _ _ _ _ (by simp))).trans (Kept.setCell _ _ _ _ (by simp))).trans (Kept.setCell _ _ _ _ (by simp))
          have hkl := HI.out.kl
          have hol : (Fo.ofl K).len = i := by rw [Fo.ofl_len]; exact hkl
          have hFp : Fp = ks := by have := HI.out.app; rwa [Fo.app_nil] at this
          have hsl := (HI.out.nr.fo (S := fun c => T + 1 ≤ c ∧ c < wr.heap.size) hkl.symm (fun d hd => (HI.out.ok d hd).keep (fun c h => ⟨h.1, h.2.1⟩) (fun _ _ _ h => h)) (fun c h1 h2 => ⟨h1, h2⟩)).kept k3 (fun c hc => ⟨by omega, hc.2⟩)
          have hin := inn_ok HI.out.ok
          have hown : ∀ c, c ∈ blk pa i → (Value.slice pa i pc).ownBlock = some c := fun c hc => by
            cases pa with
            | none => simp [blk] at hc
            | some ad =>
              cases i with
              | zero => simp [blk] at hc
              | succ i => simp only [blk, List.mem_singleton] at hc; subst hc; rfl
          refine bodyPost_ret (v := .agg #[.int .i64 k, .int .i64 ix, .string nm, .slice pa i pc]) (by simp [results, Try.results59, go_sem, z0, zi, z1, z2]) rfl ⟨_, rfl, ⟨k, ix, nm, pa, pc, Fo.ofl K⟩, by unfold Nd.v nodeV; rw [hol], ⟨rfl, rfl, rfl, by rw [← hFp]; exact HI.out.sim, trivial⟩, ⟨hk, hix, hnm, ?_⟩, ?_, ?_, ?_⟩
          · rw [hw3]
            exact hsl.mono (fun c hc => ⟨by omega, Nat.lt_of_lt_of_le hc.2 k3.size⟩)
          · show (blk pa (Fo.ofl K).len ++ (Fo.ofl K).inn).Nodup
            rw [hol, List.nodup_append]
            refine ⟨?_, HI.out.nd, fun x hx y hy e => ?_⟩
            · cases pa <;> cases i <;> simp [blk]
            · subst e
              exact (hin x hy).2.2 (hown x hx)
          · show Live _ (blk pa (Fo.ofl K).len ++ (Fo.ofl K).inn)
            rw [hw3, hol]
            intro c hc j
            rcases List.mem_append.1 hc with hc | hc
            · have ho := hown c hc
              obtain ⟨h1, h2⟩ := HI.out.nr.blk c ho
              refine (k3.frozen (p := ⟨c, j, none⟩) h2 (by show c ≠ _; omega)).trans ?_
              have h3 := HI.out.nr
              cases pa with
              | none => cases ho
              | some ad =>
                obtain ⟨ab, ao, asp⟩ := ad
                have e1 : ab = c := Option.some.inj ho
                rcases h3.2 with ⟨e, -⟩ | ⟨b9, c9, cur, e, -, hg, -⟩
                · cases e
                · simp only [Value.slice.injEq, Option.some.injEq, Addr.mk.injEq] at e
                  obtain ⟨⟨e2, -, -⟩, -, -⟩ := e
                  subst e1
                  rw [e2]
                  simp [World.frozen?, hg]
            · have h := hin c hc
              exact (k3.frozen (p := ⟨c, j, none⟩) h.2.1 (by show c ≠ _; omega)).trans (HI.out.lv c hc j)
          · rw [hw3]
            exact Below.kept HI.out.be k3 (fun c hc => by omega) (Nat.le_refl _)
        | cons k' ix' nm' ka kcap ks' r =>
          simp only [Fo.len] at hlen
          have hlt' : (i : Int) < ks.len := by omega
          obtain ⟨hnv, hwf⟩ := HPR.out
          obtain ⟨q, qr, hqr⟩ : ∃ q qr, qs.drop i = q :: qr := by
            cases e : qs.drop i with
            | nil => rw [e] at hnv; cases hnv
            | cons q qr => exact ⟨q, qr, rfl⟩
          rw [hqr] at hnv
          have hqi : qs[i]? = some q := by
            have : (qs.drop i)[0]? = some q := by rw [hqr]; rfl
            simpa using this
          have hqd : qs.drop (i + 1) = qr := by
            have : (qs.drop i).drop 1 = qr := by rw [hqr]; rfl
            simpa using this
          have hszr : Fp.size + (1 + ks'.size + r.size) = ks.size := by have h1 := HI.out.app; rw [← h1, Fo.app_size]; rfl
          have hwr : T < wr.heap.size := HI.out.q5.lt
          have hbe := HI.out.be.size
          have kWr : Kept (fun _ => True) W wr := kt HI.out.be
          have hnv1 : NvL lo W [q] (.cons k' ix' nm' ka kcap ks' .nil) ∧ NvL lo W qr r := by
            cases hnv with
            | cons hl fn nc pt h1 h2 => exact ⟨.cons hl fn nc pt h1 .nil, h2⟩
          have HCB : Hid (∀ W2, Kept (fun _ => True) wr W2 → Calls Try.prog 59 #[.pointer (some ⟨q, 0, none⟩)] W2 fun e w' => ∃ v', e = .returned v' ∧ ∃ d : Nd, v' = d.v ∧ d.fo.sim (Fo.cons k' ix' nm' ka kcap ks' .nil) ∧ d.Ok w' (fun c => W2.heap.size ≤ c ∧ c < w'.heap.size) ∧
              (blk d.a d.ks.len ++ d.ks.inn).Nodup ∧ Live w' (blk d.a d.ks.len ++ d.ks.inn) ∧ Below W2.heap.size W2 w') := fun W2 kW =>
            HIH.out ks' (by omega) k' ix' nm' ka kcap q W2 (by omega) ⟨hwf.1, hwf.2.1, hwf.2.2.1, hwf.2.2.2.1, trivial⟩ (hnv1.1.sk (SK.of_kept (kWr.trans kW)))
          obtain ⟨b, rfl, htb, hcb⟩ := HPT.out.at_ (by rw [hql]; omega)
          have y : wr.cell? ⟨b, i, none⟩ = some (.pointer (some ⟨q, 0, none⟩)) := (kWr.cell (p := ⟨b, i, none⟩) htb.lt trivial).trans (hcb i q hqi)
          have HLN := hide HI.out.kl
          have HLK : Hid (K.length < 2097152) := by unfold Hid; rw [HLN.out]; have := ks.len_le; omega
          have HNB : Hid (∀ W2 ob, Kept (fun _ => True) wr W2 → NR (T + 1) (W2.alloc ob) (.slice pa i pc) K) := fun W2 ob kW => HI.out.nr.kept (kW.trans (Kept.alloc _ _ _)) (fun _ _ => trivial)
          have HSG : Hid (∀ W2 ob W7, Kept (fun _ => True) wr W2 → (W2.alloc ob).grownBy W7 (Value.slice pa i pc).ownBlock → Kept (fun c => (Value.slice pa i pc).ownBlock ≠ some c) wr W7) := fun W2 ob W7 kW hg =>
            ((kW.trans (Kept.alloc _ _ _)).mono (fun _ _ _ => trivial)).trans (Kept.grown hg (fun c e h => h e))
          have HOB : Hid (∀ c, (Value.slice pa i pc).ownBlock = some c → T + 1 ≤ c ∧ c < wr.heap.size) := HI.out.nr.blk
          have HQ5 := hide HI.out.q5
          have hne5 : (Value.slice pa i pc).ownBlock ≠ some T := fun h => by have := (HOB.out _ h).1; omega
          have HNE := hide hne5
          have FIN : Hid (∀ (w5 : World) (x' : Nd) (ob : Obj) (g7 cp : Nat) (w7 : World), Kept (fun _ => True) wr w5 → (x'.fo.sim (Fo.cons k' ix' nm' ka kcap ks' .nil) ∧ x'.Ok w5 (fun c => wr.heap.size ≤ c ∧ c < w5.heap.size) ∧ (blk x'.a x'.ks.len ++ x'.ks.inn).Nodup ∧ Live w5 (blk x'.a x'.ks.len ++ x'.ks.inn)) → NR (T + 1) w7 (.slice (some ⟨g7, 0, none⟩) (i + 1) cp) (K ++ [x']) →
              (w5.alloc ob).grownBy w7 (Value.slice pa i pc).ownBlock → ((Value.slice pa i pc).ownBlock = some g7 ∨ g7 = (w5.alloc ob).heap.size) →
              OuI W (w7.setCell ⟨T, 3, none⟩ (.slice (some ⟨g7, 0, none⟩) (i + 1) cp)) T k ix nm ks (i + 1) (Fp.app (.cons k' ix' nm' ka kcap ks' .nil)) r (.slice (some ⟨g7, 0, none⟩) (i + 1) cp) (K ++ [x'])) := by
            intro w5 x' ob g7 cp w7 k5 ⟨sx, okx, ndx, lvx⟩ hR7 hG7 hat7
            obtain ⟨w8, hw8⟩ : ∃ w8, w7.setCell ⟨T, 3, none⟩ (.slice (some ⟨g7, 0, none⟩) (i + 1) cp) = w8 := ⟨_, rfl⟩
            have k57 : Kept (fun c => (Value.slice pa i pc).ownBlock ≠ some c) w5 w7 := (Kept.alloc _ _ _).trans (Kept.grown hG7 (fun c e h => h e))
            have k7 := HSG.out w5 ob w7 k5 hG7
            have k8 : Kept (fun c => c ≠ T) w7 w8 := by rw [← hw8]; exact Kept.setCell _ _ _ _ (by simp)
            have z5 := k5.size
            have z7 := k57.size
            have z8 := k8.size
            have k08 : Kept (fun c => (Value.slice pa i pc).ownBlock ≠ some c ∧ c ≠ T) wr w8 := (k7.mono (fun c _ h => h.1)).trans (k8.mono (fun c _ h => h.2))
            have k58 : Kept (fun c => (Value.slice pa i pc).ownBlock ≠ some c ∧ c ≠ T) w5 w8 := (k57.mono (fun c _ h => h.1)).trans (k8.mono (fun c _ h => h.2))
            have hlow : ∀ c, c < T → (Value.slice pa i pc).ownBlock ≠ some c ∧ c ≠ T := fun c hc => ⟨fun h => by have := (HOB.out _ h).1; omega, by omega⟩
            have hq5 := HQ5.out.kept k7 HNE.out
            have hg7 : T + 1 ≤ g7 := by
              rcases hat7 with h | h
              · exact (HOB.out _ h).1
              · rw [h, World.size_alloc]; omega
            have hnew : ∀ c, c < w5.heap.size → (Value.slice pa i pc).ownBlock ≠ some c → (Value.slice (some ⟨g7, 0, none⟩) (i + 1) cp).ownBlock ≠ some c := fun c hc hne h => by
              have e : g7 = c := Option.some.inj h
              rcases hat7 with h2 | h2
              · exact hne (by rw [h2, e])
              · rw [World.size_alloc] at h2; omega
            have hin := inn_ok HI.out.ok
            have hall := okx.sl.all_of
            have einn : (Fo.ofl (K ++ [x'])).inn = (Fo.ofl K).inn ++ (blk x'.a x'.ks.len ++ x'.ks.inn) := by rw [Fo.ofl_app, Fo.inn_app]; simp [Fo.ofl, Fo.inn]
            rw [hw8]
            refine ⟨by rw [Fo.app_assoc]; exact HI.out.app, by rw [Fo.app_len, HI.out.len]; rfl, by rw [List.length_append, HI.out.kl]; rfl, HI.out.tl, HI.out.q4.kept k08 (hlow _ hTl), ?_, ?_, ?_, ?_, ?_, ?_, ?_⟩
            · rw [← hw8]
              obtain ⟨l, p0, pi, p1, p2, s0, si, s1, s2⟩ := hq5
              refine ⟨by simpa [World.setCell] using l, ?_, ?_, ?_, World.cell?_setCell_same' _ _ _ (by rw [p2]; rfl), by rw [World.frozen?_setCell]; exact s0, by rw [World.frozen?_setCell]; exact si, by rw [World.frozen?_setCell]; exact s1, by rw [World.frozen?_setCell]; exact s2⟩
              · exact (World.cell?_setCell_other _ _ _ _ (by simp)).trans p0
              · exact (World.cell?_setCell_other _ _ _ _ (by simp)).trans pi
              · exact (World.cell?_setCell_other _ _ _ _ (by simp)).trans p1
            · exact hR7.kept k8 (fun c hc => by have : g7 = c := Option.some.inj hc; omega)
            · intro d hd
              rcases List.mem_append.1 hd with hd | hd
              · exact (HI.out.ok d hd).keep (fun c h => ⟨h.1, by omega, hnew c (by omega) h.2.2⟩) (fun p hp v hv => (k08.cell (p := p) hp.2.1 ⟨hp.2.2, by have := hp.1; omega⟩).trans hv)
              · have e : d = x' := by simpa using hd
                subst e
                refine okx.keep (fun c h => ⟨by omega, by omega, hnew c h.2 (fun h2 => by have := (HOB.out _ h2).2; omega)⟩) (fun p hp v hv => (k58.cell (p := p) hp.2 ⟨fun h2 => by have := (HOB.out _ h2).2; have := hp.1; omega, by have := hp.1; omega⟩).trans hv)
            · rw [Fo.ofl_app]
              exact HI.out.sim.app sx
            · rw [einn, List.nodup_append]
              refine ⟨HI.out.nd, ndx, fun x hx y hy e => ?_⟩
              subst e
              have h1 := (hin x hx).2.1
              have h2 := (hall x hy).1
              omega
            · rw [einn]
              intro c hc j
              rcases List.mem_append.1 hc with hc | hc
              · have h := hin c hc
                exact (k08.frozen (p := ⟨c, j, none⟩) h.2.1 ⟨h.2.2, by have h1 : T + 1 ≤ c := h.1; show c ≠ T; omega⟩).trans (HI.out.lv c hc j)
              · have h := hall c hc
                exact (k58.frozen (p := ⟨c, j, none⟩) h.2 ⟨fun h2 => by have h3 : c < wr.heap.size := (HOB.out _ h2).2; have h1 : wr.heap.size ≤ c := h.1; omega, by have h1 : wr.heap.size ≤ c := h.1; show c ≠ T; omega⟩).trans (lvx c hc j)
            · exact Below.kept HI.out.be k08 (fun c hc => hlow c (by omega)) (Nat.le_refl _)
          have HPR2 : Hid (NvL lo W (qs.drop (i + 1)) r ∧ r.wfs) := ⟨by rw [hqd]; exact hnv1.2, hwf.2.2.2.2⟩
          clear hne5 hnv1 hnv hwf hqr hqi hqd HPR hcb kWr
          go_upto_region 6 with fail
          go_region_law (first
            | (refine step_call (by rfl) 59 #[.pointer (some ⟨q, 0, none⟩)] (by simp [go_sem]) _ (HCB.out _ ⟨rfl, rfl, rfl, Nat.le_refl _, fun _ _ _ => rfl⟩) ?_; rintro v5 w5 ⟨x', rfl, sx, okx, ndx, lvx, b5⟩; have HK5 : Hid (Kept (fun _ => True) wr w5) := ⟨b5.os, b5.tape, b5.output, b5.size, fun c hc _ => b5.block c hc⟩; have HP5 : Hid (x'.fo.sim (Fo.cons k' ix' nm' ka kcap ks' .nil) ∧ x'.Ok w5 (fun c => wr.heap.size ≤ c ∧ c < w5.heap.size) ∧ (blk x'.a x'.ks.len ++ x'.ks.inn).Nodup ∧ Live w5 (blk x'.a x'.ks.len ++ x'.ks.inn)) := ⟨sx, okx, ndx, lvx⟩; obtain ⟨-, p0, pi, p1, p2, s0, si, s1, s2⟩ := HQ5.out.kept HK5.out trivial; have pb : (w5.alloc (.cells #[.int .i64 x'.k, .int .i64 x'.ix, .string x'.nm, .slice x'.a x'.ks.len x'.cap] 29)).cell? ⟨T, 3, none⟩ = some (.slice pa i pc) := ((HQ5.out.kept HK5.out trivial).alloc _).c2; clear sx okx ndx lvx b5; unfold Nd.v nodeV)
            | (refine nr_draw (by rfl) _ _ (by rfl) (T + 1) _ (.slice pa i pc) K x' _ _ i HLN.out (by rfl) (HNB.out _ _ HK5.out) (by rfl) (heap_new _ _) (by have := HK5.out.size; simp; omega) HLK.out ?_; intro g7 cp w7 hR7 hG7 hat7; have HK7 := hide (HSG.out _ _ _ HK5.out hG7); obtain ⟨-, p0, pi, p1, p2, s0, si, s1, s2⟩ := HQ5.out.kept HK7.out HNE.out))
          all_goals
            have HF := hide (FIN.out _ _ _ _ _ _ HK5.out HP5.out hR7 hG7 hat7)
            clear hR7 hG7 hat7 HK7
            go_wp2_with fail
            go_roundw
            case rel => exact ⟨i + 1, _, r, _, _, _, by go_num, by omega, HF.out, HPR2.out⟩
            case measure => simp [intOf]; omega

end Go.Proofs.Ytjlefdalobgdfaa
