import Derived.Test.YtjlefdalobgdfaaOp
import Derived.Test.YtjlefdalobgdfaaShelf
namespace Go.Proofs.Ytjlefdalobgdfaa
open Go.RowKit Go.Joins

set_option maxRecDepth 100000 in
theorem iClone (x : ByteArray) (w : World) (hx : x.size ≤ 1048576) : Calls Try.prog 81 #[.string x] w fun e w' => e = .returned (.string x) ∧ Below w.heap.size w w' := by
  have := Try.stringslite_Clone x w (by omega)
  go_enter Try.func81, Try.ntmps81
  go_wp2_with fail
  refine this.mono ?_
  rintro e w2 ⟨rfl, b2⟩
  go_wp2_with fail
  go_ret
  exact ⟨rfl, b2⟩

set_option maxHeartbeats 1000000 in
set_option maxRecDepth 100000 in
/-- A leaf opened. -/
theorem leaf_any (k ix f : Int) (fb : Nat) (w : World) (hf0 : 0 ≤ f) (hf1 : f ≤ 1099511627776) (hp : k = 2 → 0 ≤ ix ∧ ix ≤ 1099511627776) (hc : w.cell? ⟨fb, 0, none⟩ = some (.int .i64 f)) :
    Calls Try.prog 75 #[.agg #[.int .i64 k, .int .i64 ix], .pointer (some ⟨fb, 0, none⟩)] w fun e w' => e = .returned (.agg #[.int .i64 (if k = 2 then 1 else k), .int .i64 (if k = 2 then f + ix else ix)]) ∧ Below w.heap.size w w' := by
  have hfb : fb < w.heap.size := block_lt_of_cell hc
  have hne : ¬ w.heap.size = fb := by omega
  have hne2 : ¬ w.heap.size + 1 = fb := by omega
  have b0 := below_alloc2 w (.cells #[.int .i64 k, .int .i64 ix] 121) (.cells #[.int .i64 0, .int .i64 0] 121)
  have hc2 := (b0.cell (p := ⟨fb, 0, none⟩) hfb).trans hc
  by_cases hk : k = 2
  · subst hk
    obtain ⟨h0, h1⟩ := hp rfl
    have hfx : f + ix ≤ 9223372036854775807 := by omega
    have hfx0 : -9223372036854775808 ≤ f + ix := by omega
    go_enter Try.func75, Try.ntmps75
    go_wp2_with fail
    refine bodyPost_ret (v := .agg #[.int .i64 1, .int .i64 (f + ix)]) (by simp [results, Try.results75, go_sem]) rfl ⟨by simp, ?_⟩
    exact below_alloc2 _ _ _
  · have hkb : (k == 2) = false := by simpa using hk
    simp only [if_neg hk]
    go_enter Try.func75, Try.ntmps75
    go_wp2_with fail
    refine bodyPost_ret (v := .agg #[.int .i64 k, .int .i64 ix]) (by simp [results, Try.results75, go_sem]) rfl ⟨rfl, ?_⟩
    exact below_alloc2 _ _ _

/-- A row with its leaves turned, as the program opens it. -/
def Fo.wl (f : Int) : Fo → Fo
  | .nil => .nil
  | .cons k ix nm a cap ks r => if k = 3 then .cons 3 0 nm a cap (ks.wl f) (r.wl f) else .cons (if k = 2 then 1 else k) (if k = 2 then f + ix else ix) ⟨#[]⟩ none 0 .nil (r.wl f)

theorem Fo.wl_app (f : Int) : ∀ F G : Fo, (F.app G).wl f = (F.wl f).app (G.wl f)
  | .nil, _ => rfl
  | .cons k ix nm a cap ks r, G => by
    simp only [Fo.app, Fo.wl]
    split <;> simp only [Fo.app, r.wl_app f G]

theorem inn_ok {w : World} {S : Nat → Prop} : ∀ {K : List Nd}, (∀ d ∈ K, d.Ok w S) → ∀ c, c ∈ (Fo.ofl K).inn → S c
  | [], _, c, hc => by simp [Fo.ofl, Fo.inn] at hc
  | d :: K, h, c, hc => by
    simp only [Fo.ofl, Fo.inn, List.mem_append] at hc
    rcases hc with hc | hc
    · exact (h d (List.mem_cons_self)).sl.all_of c (List.mem_append.2 hc)
    · exact inn_ok (fun x hx => h x (List.mem_cons_of_mem _ hx)) c hc

/-- What the loop of the program's walk knows; T: the block of what is made. -/
structure WlI (W wr : World) (T : Nat) (f : Int) (ix : Int) (nm : ByteArray) (a : Option Addr) (cap : Nat) (ks : Fo) (n0 : Nat) (i : Nat) (Fp r : Fo) (v : Value) (K : List Nd) : Prop where
  app : Fp.app r = ks
  len : Fp.len = i
  kl : K.length = i
  tl : W.heap.size + 1 < T
  q4 : Box4 wr (W.heap.size + 1) (.int .i64 0) (.int .i64 0) (.string ⟨#[]⟩) (.slice none 0 0)
  q5 : Box4 wr T (.int .i64 3) (.int .i64 0) (.string nm) v
  nr : NR (T + 1) wr v K
  ok : ∀ d ∈ K, d.Ok wr (fun c => T + 1 ≤ c ∧ c < wr.heap.size ∧ v.ownBlock ≠ some c)
  sim : (Fo.ofl K).sim (Fp.wl f)
  nd : (Fo.ofl K).inn.Nodup
  lv : Live wr (Fo.ofl K).inn
  be : Below W.heap.size W wr
  row : 0 < r.len → ∃ b o, a = some ⟨b, o, none⟩ ∧ b < n0 ∧ r.Row wr (fun b => b < n0) b (o + i * 4)

set_option maxHeartbeats 4000000 in
set_option maxRecDepth 100000 in
theorem leaves_any : ∀ (m : Nat) (ks : Fo), ks.size < m → ∀ (k ix : Int) (nm : ByteArray) (f : Int) (fb n0 : Nat) (W : World) (a : Option Addr) (cap : Nat), n0 ≤ W.heap.size → nm.size + ks.tot ≤ 1048576 → 0 ≤ f → f ≤ 1099511627776 → W.cell? ⟨fb, 0, none⟩ = some (.int .i64 f) →
    (Lit.int .i64 k).wf = true → (Lit.int .i64 ix).wf = true → nm.size ≤ maxLen → ks.Sl W (fun b => b < n0) a cap → (Fo.cons k ix nm a cap ks .nil).pl →
    Calls Try.prog 68 #[nodeV k ix nm a ks.len cap, .func (.func 75) #[] #[.pointer (some ⟨fb, 0, none⟩)]] W fun e W' => ∃ v', e = .returned v' ∧ ∃ d : Nd, v' = d.v ∧ d.fo.sim ((Fo.cons k ix nm a cap ks .nil).wl f) ∧ d.Ok W' (fun c => W.heap.size ≤ c ∧ c < W'.heap.size) ∧
      (blk d.a d.ks.len ++ d.ks.inn).Nodup ∧ Live W' (blk d.a d.ks.len ++ d.ks.inn) ∧ Below W.heap.size W W' := by
  intro m
  induction m with
  | zero => intro F hF; omega
  | succ m ih =>
    intro ks hF k ix nm f fb n0 W a cap hn hsz hf0 hf1 hfc hk hix hnm hs hpl
    unfold nodeV
    have q0 := Box4.new W (.int .i64 k) (.int .i64 ix) (.string nm) (.slice a ks.len cap) 29
    have hfb : fb < W.heap.size := block_lt_of_cell hfc
    have b2 := below_alloc2 W (.cells #[.int .i64 k, .int .i64 ix, .string nm, .slice a ks.len cap] 29) (.cells #[.int .i64 0, .int .i64 0, .string ⟨#[]⟩, .slice none 0 0] 29)
    have q4 := Box4.new (W.alloc (.cells #[.int .i64 k, .int .i64 ix, .string nm, .slice a ks.len cap] 29)) (.int .i64 0) (.int .i64 0) (.string ⟨#[]⟩) (.slice none 0 0) 29
    rw [World.size_alloc] at q4
    have q2 := q0.alloc (.cells #[.int .i64 0, .int .i64 0, .string ⟨#[]⟩, .slice none 0 0] 29)
    have hz : ((W.alloc (.cells #[.int .i64 k, .int .i64 ix, .string nm, .slice a ks.len cap] 29)).alloc (.cells #[.int .i64 0, .int .i64 0, .string ⟨#[]⟩, .slice none 0 0] 29)).heap.size = W.heap.size + 1 + 1 := by simp
    obtain ⟨W1, hW1⟩ : ∃ W1, ((W.alloc (.cells #[.int .i64 k, .int .i64 ix, .string nm, .slice a ks.len cap] 29)).alloc (.cells #[.int .i64 0, .int .i64 0, .string ⟨#[]⟩, .slice none 0 0] 29)) = W1 := ⟨_, rfl⟩
    rw [hW1] at b2 q2 q4 hz
    have hc1 : W1.cell? ⟨fb, 0, none⟩ = some (.int .i64 f) := (b2.cell (p := ⟨fb, 0, none⟩) hfb).trans hfc
    have hs1 := hs.below b2 (fun b x => by omega)
    have HQ4 := hide q4
    have HQ2 := hide q2
    have HB2 := hide b2
    have HZ := hide hz
    have HC1 := hide hc1
    have HS1 := hide hs1
    obtain ⟨-, x0, xi, x1, x2, -, -, -, -⟩ := id q2
    clear q0 q2 q4 b2 hz hc1 hs1 hs
    by_cases hk3 : k = 3
    · subst hk3
      have hkb : ((3 : Int) != 3) = false := by decide
      have hwl : (Fo.cons 3 ix nm a cap ks .nil).wl f = .cons 3 0 nm a cap (ks.wl f) .nil := by simp [Fo.wl]
      rw [hwl]
      have HCl := hide (iClone nm W1 (by omega))
      have HIH := hide ih
      have HPL := hide hpl.2.1
      have hst : ks.size ≤ ks.tot := ks.size_le
      have hmx : ks.len ≤ 9223372036854775807 := by have h2 := HS1.out.1; have h3 := HS1.out.2.1; simp only [maxLen] at h3; omega
      clear ih hpl hwl
      go_enter Try.func68, Try.ntmps68
      go_upto_region 1 with fail
      clear hW1
      go_wp2_with fail
      refine HCl.out.mono ?_
      rintro e w1 ⟨rfl, b1⟩
      have hz1 := b1.size
      have hzW := HZ.out
      have b3 := below_alloc1 w1 (.cells #[.int .i64 3, .int .i64 0, .string nm, .slice none 0 0] 29)
      have b13 := b1.trans (b3.mono hz1)
      have z3 : (w1.alloc (.cells #[.int .i64 3, .int .i64 0, .string nm, .slice none 0 0] 29)).heap.size = w1.heap.size + 1 := by simp
      have hI0 : WlI W (w1.alloc (.cells #[.int .i64 3, .int .i64 0, .string nm, .slice none 0 0] 29)) w1.heap.size f ix nm a cap ks n0 0 .nil ks (.slice none 0 0) [] :=
        ⟨rfl, rfl, rfl, by omega, HQ4.out.below b13 (by omega), Box4.new _ _ _ _ _ _, NR.nil _ _, fun d hd => (by cases hd), trivial, by simp [Fo.ofl, Fo.inn], fun c hc => by simp [Fo.ofl, Fo.inn] at hc, HB2.out.trans (b13.mono (by omega)), fun hl => (HS1.out.below b13 (fun b x => by omega)).2.2 hl⟩
      have q6 := HQ2.out.below b13 (by omega)
      obtain ⟨-, x0, xi, x1, x2, -, -, -, -⟩ := id q6
      have HI0 := hide hI0
      have Hz1 := hide (And.intro hz1 hzW)
      clear q6 hI0 b3 b13 b1 hz1 hzW z3
      go_upto_region 5 with fail
      generalize w1.alloc (.cells #[.int .i64 3, .int .i64 0, .string nm, .slice none 0 0] 29) = W0 at *
      obtain ⟨T, hT⟩ : ∃ T, w1.heap.size = T := ⟨_, rfl⟩
      rw [hT] at HI0 ⊢
      clear hT
      go_wp2_with fail
      go_loopw [31] (fun s31 wr => ∃ (i : Nat) (Fp r : Fo) (pa : Option Addr) (pc : Nat) (K : List Nd), s31 = .int .i64 i ∧ i ≤ ks.len ∧ Hid (WlI W wr T f ix nm a cap ks n0 i Fp r (.slice pa i pc) K) ∧ Hid (r.pl)) (fun s31 _ => ks.len - (intOf s31).toNat)
      case atStart => exact ⟨0, .nil, ks, none, 0, [], rfl, Nat.zero_le _, HI0.out, HPL.out⟩
      case round =>
        obtain ⟨i, Fp, r, pa, pc, K, rfl, hi, HI, HPR⟩ := hrel
        have hlen : i + r.len = ks.len := by have h1 := HI.out.app; have h2 := HI.out.len; rw [← h1, Fo.app_len, h2]
        clear x0 xi x1 x2
        obtain ⟨-, z0, zi, z1, z2, g0, gi, g1, g2⟩ := HI.out.q4
        obtain ⟨-, p0, pi, p1, p2, f0, fi, f1, f2⟩ := HI.out.q5
        have hTl := HI.out.tl
        cases r with
        | nil =>
          simp only [Fo.len] at hlen
          have hlt' : ¬ (i : Int) < ks.len := by omega
          go_wp2_with fail
          obtain ⟨w3, hw3⟩ : ∃ w3, (((wr.setCell ⟨W.heap.size + 1, 0, none⟩ (.int .i64 3)).setCell ⟨W.heap.size + 1, 1, none⟩ (.int .i64 0)).setCell ⟨W.heap.size + 1, 2, none⟩ (.string nm)).setCell ⟨W.heap.size + 1, 3, none⟩ (.slice pa i pc) = w3 := ⟨_, rfl⟩
          have k3 : Kept (fun c => c ≠ W.heap.size + 1) wr w3 := by
            rw [← hw3]
            exact (((Kept.setCell _ _ _ _ (by simp)).trans (Kept.setCell _ _ _ _ (by simp))).trans (Kept.setCell _ _ _ _ (by simp))).trans (Kept.setCell _ _ _ _ (by simp))
          have hkl := HI.out.kl
          have hol : (Fo.ofl K).len = i := by rw [Fo.ofl_len]; exact hkl
          have hFp : Fp = ks := by have := HI.out.app; rwa [Fo.app_nil] at this
          have hsl := (HI.out.nr.fo (S := fun c => T + 1 ≤ c ∧ c < wr.heap.size) hkl.symm (fun d hd => (HI.out.ok d hd).keep (fun c h => ⟨h.1, h.2.1⟩) (fun _ _ _ h => h)) (fun c h1 h2 => ⟨h1, h2⟩)).kept k3 (fun c hc => ⟨by omega, hc.2⟩)
          have hin := inn_ok HI.out.ok
          have hown : ∀ c, c ∈ blk pa i → (Value.slice pa i pc).ownBlock = some c := fun c hc => by
            cases pa with
            | none => simp [blk] at hc
            | some ad =>
              cases i with
              | zero => simp [blk] at hc
              | succ i => simp only [blk, List.mem_singleton] at hc; subst hc; rfl
          refine bodyPost_ret (v := .agg #[.int .i64 3, .int .i64 0, .string nm, .slice pa i pc]) (by simp [results, Try.results68, go_sem, z0, zi, z1, z2]) rfl ⟨_, rfl, ⟨3, 0, nm, pa, pc, Fo.ofl K⟩, by unfold Nd.v nodeV; rw [hol], ⟨rfl, rfl, rfl, by rw [← hFp]; exact HI.out.sim, trivial⟩, ⟨(by show (Lit.int .i64 3).wf = true; decide), (by show (Lit.int .i64 0).wf = true; decide), hnm, ?_⟩, ?_, ?_, ?_⟩
          · rw [hw3]
            exact hsl.mono (fun c hc => ⟨by omega, Nat.lt_of_lt_of_le hc.2 k3.size⟩)
          · show (blk pa (Fo.ofl K).len ++ (Fo.ofl K).inn).Nodup
            rw [hol, List.nodup_append]
            refine ⟨?_, HI.out.nd, fun x hx y hy e => ?_⟩
            · cases pa <;> cases i <;> simp [blk]
            · subst e
              exact (hin x hy).2.2 (hown x hx)
          · show Live _ (blk pa (Fo.ofl K).len ++ (Fo.ofl K).inn)
            rw [hw3, hol]
            intro c hc j
            rcases List.mem_append.1 hc with hc | hc
            · have ho := hown c hc
              obtain ⟨h1, h2⟩ := HI.out.nr.blk c ho
              refine (k3.frozen (p := ⟨c, j, none⟩) h2 (by show c ≠ _; omega)).trans ?_
              have h3 := HI.out.nr
              cases pa with
              | none => cases ho
              | some ad =>
                obtain ⟨ab, ao, asp⟩ := ad
                have e1 : ab = c := Option.some.inj ho
                rcases h3.2 with ⟨e, -⟩ | ⟨b9, c9, cur, e, -, hg, -⟩
                · cases e
                · simp only [Value.slice.injEq, Option.some.injEq, Addr.mk.injEq] at e
                  obtain ⟨⟨e2, -, -⟩, -, -⟩ := e
                  subst e1
                  rw [e2]
                  simp [World.frozen?, hg]
            · have h := hin c hc
              exact (k3.frozen (p := ⟨c, j, none⟩) h.2.1 (by show c ≠ _; omega)).trans (HI.out.lv c hc j)
          · rw [hw3]
            exact Below.kept HI.out.be k3 (fun c hc => by omega) (Nat.le_refl _)
        | cons k' ix' nm' ka kcap ks' r =>
          simp only [Fo.len] at hlen
          have hlt' : (i : Int) < ks.len := by omega
          obtain ⟨b, o, rfl, hb, hk', hix', hnm', c1, ci, c2, c3, h4, h5, h6, h7⟩ := HI.out.row (by simp [Fo.len])
          have hszr : Fp.size + (1 + ks'.size + r.size) = ks.size := by have h1 := HI.out.app; rw [← h1, Fo.app_size]; rfl
          have htot : Fp.tot + (1 + nm'.size + ks'.tot + r.tot) = ks.tot := by have h1 := HI.out.app; rw [← h1, Fo.app_tot]; rfl
          have hks : ks'.Sl wr (fun b => b < n0) ka kcap := ⟨h4, h5, h6⟩
          have hwr : T < wr.heap.size := HI.out.q5.lt
          have hbe := HI.out.be.size
          have kA : Kept (fun _ => True) wr (wr.alloc (.cells #[.int .i64 k', .int .i64 ix', .string nm', .slice ka ks'.len kcap] 29)) := Kept.alloc _ _ _
          have zA : (wr.alloc (.cells #[.int .i64 k', .int .i64 ix', .string nm', .slice ka ks'.len kcap] 29)).heap.size = wr.heap.size + 1 := by simp
          have xA := Box4.new wr (.int .i64 k') (.int .i64 ix') (.string nm') (.slice ka ks'.len kcap) 29
          obtain ⟨wa, hwa⟩ : ∃ wa, wr.alloc (.cells #[.int .i64 k', .int .i64 ix', .string nm', .slice ka ks'.len kcap] 29) = wa := ⟨_, rfl⟩
          rw [hwa] at kA zA xA
          have HCB : Hid (∀ W2, Kept (fun _ => True) wa W2 → Calls Try.prog 68 #[.agg #[.int .i64 k', .int .i64 ix', .string nm', .slice ka ks'.len kcap], .func (.func 75) #[] #[.pointer (some ⟨fb, 0, none⟩)]] W2 fun e w' => ∃ v', e = .returned v' ∧ ∃ d : Nd, v' = d.v ∧ d.fo.sim ((Fo.cons k' ix' nm' ka kcap ks' .nil).wl f) ∧ d.Ok w' (fun c => W2.heap.size ≤ c ∧ c < w'.heap.size) ∧
              (blk d.a d.ks.len ++ d.ks.inn).Nodup ∧ Live w' (blk d.a d.ks.len ++ d.ks.inn) ∧ Below W2.heap.size W2 w') := fun W2 kW => by
            have kW2 := kA.trans kW
            have h1 := HIH.out ks' (by omega) k' ix' nm' f fb n0 W2 ka kcap (by have := kW2.size; omega) (by omega) hf0 hf1 ((kW2.cell (p := ⟨fb, 0, none⟩) (by show fb < _; omega) trivial).trans ((HI.out.be.cell (p := ⟨fb, 0, none⟩) hfb).trans hfc)) hk' hix' hnm' (hks.kept kW2 (fun b x => ⟨trivial, by omega⟩)) ⟨HPR.out.1, HPR.out.2.1, trivial⟩
            unfold nodeV at h1
            exact h1
          have HLN := hide HI.out.kl
          have HLK : Hid (K.length < 2097152) := by unfold Hid; rw [HLN.out]; have := ks.len_le; omega
          have HNB : Hid (∀ W2 ob, Kept (fun _ => True) wr W2 → NR (T + 1) (W2.alloc ob) (.slice pa i pc) K) := fun W2 ob kW => HI.out.nr.kept (kW.trans (Kept.alloc _ _ _)) (fun _ _ => trivial)
          have HSG : Hid (∀ W2 ob W7, Kept (fun _ => True) wr W2 → (W2.alloc ob).grownBy W7 (Value.slice pa i pc).ownBlock → Kept (fun c => (Value.slice pa i pc).ownBlock ≠ some c) wr W7) := fun W2 ob W7 kW hg =>
            ((kW.trans (Kept.alloc _ _ _)).mono (fun _ _ _ => trivial)).trans (Kept.grown hg (fun c e h => h e))
          have HOB : Hid (∀ c, (Value.slice pa i pc).ownBlock = some c → T + 1 ≤ c ∧ c < wr.heap.size) := HI.out.nr.blk
          have HQ5 := hide HI.out.q5
          have H7 := hide h7
          have hne5 : (Value.slice pa i pc).ownBlock ≠ some T := fun h => by have := (HOB.out _ h).1; omega
          have HNE := hide hne5
          have FIN : Hid (∀ (w5 : World) (x' : Nd) (ob : Obj) (g7 cp : Nat) (w7 : World), Kept (fun _ => True) wr w5 → (x'.fo.sim ((Fo.cons k' ix' nm' ka kcap ks' .nil).wl f) ∧ x'.Ok w5 (fun c => wr.heap.size ≤ c ∧ c < w5.heap.size) ∧ (blk x'.a x'.ks.len ++ x'.ks.inn).Nodup ∧ Live w5 (blk x'.a x'.ks.len ++ x'.ks.inn)) → NR (T + 1) w7 (.slice (some ⟨g7, 0, none⟩) (i + 1) cp) (K ++ [x']) →
              (w5.alloc ob).grownBy w7 (Value.slice pa i pc).ownBlock → ((Value.slice pa i pc).ownBlock = some g7 ∨ g7 = (w5.alloc ob).heap.size) →
              WlI W (w7.setCell ⟨T, 3, none⟩ (.slice (some ⟨g7, 0, none⟩) (i + 1) cp)) T f ix nm (some ⟨b, o, none⟩) cap ks n0 (i + 1) (Fp.app (.cons k' ix' nm' ka kcap ks' .nil)) r (.slice (some ⟨g7, 0, none⟩) (i + 1) cp) (K ++ [x'])) := by
            intro w5 x' ob g7 cp w7 k5 ⟨sx, okx, ndx, lvx⟩ hR7 hG7 hat7
            obtain ⟨w8, hw8⟩ : ∃ w8, w7.setCell ⟨T, 3, none⟩ (.slice (some ⟨g7, 0, none⟩) (i + 1) cp) = w8 := ⟨_, rfl⟩
            have k57 : Kept (fun c => (Value.slice pa i pc).ownBlock ≠ some c) w5 w7 := (Kept.alloc _ _ _).trans (Kept.grown hG7 (fun c e h => h e))
            have k7 := HSG.out w5 ob w7 k5 hG7
            have k8 : Kept (fun c => c ≠ T) w7 w8 := by rw [← hw8]; exact Kept.setCell _ _ _ _ (by simp)
            have z5 := k5.size
            have z7 := k57.size
            have z8 := k8.size
            have k08 : Kept (fun c => (Value.slice pa i pc).ownBlock ≠ some c ∧ c ≠ T) wr w8 := (k7.mono (fun c _ h => h.1)).trans (k8.mono (fun c _ h => h.2))
            have k58 : Kept (fun c => (Value.slice pa i pc).ownBlock ≠ some c ∧ c ≠ T) w5 w8 := (k57.mono (fun c _ h => h.1)).trans (k8.mono (fun c _ h => h.2))
            have hlow : ∀ c, c < T → (Value.slice pa i pc).ownBlock ≠ some c ∧ c ≠ T := fun c hc => ⟨fun h => by have := (HOB.out _ h).1; omega, by omega⟩
            have hq5 := HQ5.out.kept k7 HNE.out
            have hg7 : T + 1 ≤ g7 := by
              rcases hat7 with h | h
              · exact (HOB.out _ h).1
              · rw [h, World.size_alloc]; omega
            have hnew : ∀ c, c < w5.heap.size → (Value.slice pa i pc).ownBlock ≠ some c → (Value.slice (some ⟨g7, 0, none⟩) (i + 1) cp).ownBlock ≠ some c := fun c hc hne h => by
              have e : g7 = c := Option.some.inj h
              rcases hat7 with h2 | h2
              · exact hne (by rw [h2, e])
              · rw [World.size_alloc] at h2; omega
            have hin := inn_ok HI.out.ok
            have hall := okx.sl.all_of
            have einn : (Fo.ofl (K ++ [x'])).inn = (Fo.ofl K).inn ++ (blk x'.a x'.ks.len ++ x'.ks.inn) := by rw [Fo.ofl_app, Fo.inn_app]; simp [Fo.ofl, Fo.inn]
            rw [hw8]
            refine ⟨by rw [Fo.app_assoc]; exact HI.out.app, by rw [Fo.app_len, HI.out.len]; rfl, by rw [List.length_append, HI.out.kl]; rfl, HI.out.tl, HI.out.q4.kept k08 (hlow _ hTl), ?_, ?_, ?_, ?_, ?_, ?_, ?_, fun _ => ⟨b, o, rfl, hb, ?_⟩⟩
            · rw [← hw8]
              obtain ⟨l, p0, pi, p1, p2, s0, si, s1, s2⟩ := hq5
              refine ⟨by simpa [World.setCell] using l, ?_, ?_, ?_, World.cell?_setCell_same' _ _ _ (by rw [p2]; rfl), by rw [World.frozen?_setCell]; exact s0, by rw [World.frozen?_setCell]; exact si, by rw [World.frozen?_setCell]; exact s1, by rw [World.frozen?_setCell]; exact s2⟩
              · exact (World.cell?_setCell_other _ _ _ _ (by simp)).trans p0
              · exact (World.cell?_setCell_other _ _ _ _ (by simp)).trans pi
              · exact (World.cell?_setCell_other _ _ _ _ (by simp)).trans p1
            · exact hR7.kept k8 (fun c hc => by have : g7 = c := Option.some.inj hc; omega)
            · intro d hd
              rcases List.mem_append.1 hd with hd | hd
              · exact (HI.out.ok d hd).keep (fun c h => ⟨h.1, by omega, hnew c (by omega) h.2.2⟩) (fun p hp v hv => (k08.cell (p := p) hp.2.1 ⟨hp.2.2, by have := hp.1; omega⟩).trans hv)
              · have e : d = x' := by simpa using hd
                subst e
                refine okx.keep (fun c h => ⟨by omega, by omega, hnew c h.2 (fun h2 => by have := (HOB.out _ h2).2; omega)⟩) (fun p hp v hv => (k58.cell (p := p) hp.2 ⟨fun h2 => by have := (HOB.out _ h2).2; have := hp.1; omega, by have := hp.1; omega⟩).trans hv)
            · rw [Fo.ofl_app, Fo.wl_app]
              exact HI.out.sim.app sx
            · rw [einn, List.nodup_append]
              refine ⟨HI.out.nd, ndx, fun x hx y hy e => ?_⟩
              subst e
              have h1 := (hin x hx).2.1
              have h2 := (hall x hy).1
              omega
            · rw [einn]
              intro c hc j
              rcases List.mem_append.1 hc with hc | hc
              · have h := hin c hc
                exact (k08.frozen (p := ⟨c, j, none⟩) h.2.1 ⟨h.2.2, by have h1 : T + 1 ≤ c := h.1; show c ≠ T; omega⟩).trans (HI.out.lv c hc j)
              · have h := hall c hc
                exact (k58.frozen (p := ⟨c, j, none⟩) h.2 ⟨fun h2 => by have h3 : c < wr.heap.size := (HOB.out _ h2).2; have h1 : wr.heap.size ≤ c := h.1; omega, by have h1 : wr.heap.size ≤ c := h.1; show c ≠ T; omega⟩).trans (lvx c hc j)
            · exact Below.kept HI.out.be k08 (fun c hc => hlow c (by omega)) (Nat.le_refl _)
            · have e : o + (i + 1) * 4 = o + i * 4 + 4 := by omega
              rw [e]
              exact H7.out.keep (fun _ x => x) (fun p hp v hv => (k08.cell (p := p) (by have : p.block < n0 := hp; omega) (hlow _ (by have : p.block < n0 := hp; omega))).trans hv) (fun j _ _ v hv => (k08.cell (p := ⟨b, j, none⟩) (by show b < _; omega) (hlow _ (by show b < _; omega))).trans hv)
          have HPR2 : Hid r.pl := HPR.out.2.2
          have HKA := hide kA
          have HXA := hide xA
          have hzA2 : wr.heap.size ≤ wa.heap.size := by omega
          clear hks h4 h5 h6 h7 hne5 kA xA zA
          go_upto_region 8 with fail
          clear hwa
          obtain ⟨-, u0, ui, u1, u2, -, -, -, -⟩ := HXA.out
          clear p0 pi p1 p2 f0 fi f1 f2
          obtain ⟨-, p0, pi, p1, p2, f0, fi, f1, f2⟩ := HQ5.out.kept HKA.out trivial
          go_region_law (first
            | (refine step_call (by rfl) 68 #[.agg #[.int .i64 k', .int .i64 ix', .string nm', .slice ka ks'.len kcap], .func (.func 75) #[] #[.pointer (some ⟨fb, 0, none⟩)]] (by simp [go_sem]) _ (HCB.out _ ⟨rfl, rfl, rfl, Nat.le_refl _, fun _ _ _ => rfl⟩) ?_; rintro v5 w5 ⟨x', rfl, sx, okx, ndx, lvx, b5⟩; have HK5a : Hid (Kept (fun _ => True) wa w5) := ⟨b5.os, b5.tape, b5.output, b5.size, fun c hc _ => b5.block c hc⟩; have HK5 : Hid (Kept (fun _ => True) wr w5) := HKA.out.trans HK5a.out; have HP5 : Hid (x'.fo.sim ((Fo.cons k' ix' nm' ka kcap ks' .nil).wl f) ∧ x'.Ok w5 (fun c => wr.heap.size ≤ c ∧ c < w5.heap.size) ∧ (blk x'.a x'.ks.len ++ x'.ks.inn).Nodup ∧ Live w5 (blk x'.a x'.ks.len ++ x'.ks.inn)) := ⟨sx, okx.keep (fun c h => ⟨Nat.le_trans hzA2 h.1, h.2⟩) (fun _ _ _ h => h), ndx, lvx⟩; obtain ⟨-, p0, pi, p1, p2, s0, si, s1, s2⟩ := HQ5.out.kept HK5.out trivial; have pb : (w5.alloc (.cells #[.int .i64 x'.k, .int .i64 x'.ix, .string x'.nm, .slice x'.a x'.ks.len x'.cap] 29)).cell? ⟨T, 3, none⟩ = some (.slice pa i pc) := ((HQ5.out.kept HK5.out trivial).alloc _).c2; clear sx okx ndx lvx b5; unfold Nd.v nodeV)
            | (refine nr_draw (by rfl) _ _ (by rfl) (T + 1) _ (.slice pa i pc) K x' _ _ i HLN.out (by rfl) (HNB.out _ _ HK5.out) (by rfl) (heap_new _ _) (by have := HK5.out.size; simp; omega) HLK.out ?_; intro g7 cp w7 hR7 hG7 hat7; have HK7 := hide (HSG.out _ _ _ HK5.out hG7); obtain ⟨-, p0, pi, p1, p2, s0, si, s1, s2⟩ := HQ5.out.kept HK7.out HNE.out))
          all_goals
            have HF := hide (FIN.out _ _ _ _ _ _ HK5.out HP5.out hR7 hG7 hat7)
            clear hR7 hG7 hat7 HK7
            go_wp2_with fail
            go_roundw
            case rel => exact ⟨i + 1, _, r, _, _, _, by go_num, by omega, HF.out, HPR2.out⟩
            case measure => simp [intOf]; omega
    · have hkb : (k != 3) = true := by simpa using hk3
      have hwl : (Fo.cons k ix nm a cap ks .nil).wl f = .cons (if k = 2 then 1 else k) (if k = 2 then f + ix else ix) ⟨#[]⟩ none 0 .nil .nil := by simp [Fo.wl, hk3]
      rw [hwl]
      have hw1 : (Lit.int .i64 (if k = 2 then 1 else k)).wf = true := by
        split
        · decide
        · exact hk
      have hw2 : (Lit.int .i64 (if k = 2 then f + ix else ix)).wf = true := by
        split
        · next h => exact wf_sum hf0 hf1 (hpl.1 h).1 (hpl.1 h).2
        · exact hix
      have HL := hide (leaf_any k ix f fb W1 hf0 hf1 hpl.1 HC1.out)
      generalize (if k = 2 then 1 else k) = lk at hw1 HL ⊢
      generalize (if k = 2 then f + ix else ix) = li at hw2 HL ⊢
      have HW := hide (And.intro hw1 hw2)
      clear ih hpl hwl hw1 hw2 hk3
      go_enter Try.func68, Try.ntmps68
      go_upto_region 1 with fail
      clear hW1
      go_wp2_with fail
      refine HL.out.mono ?_
      rintro e w1 ⟨rfl, b1⟩
      have q5 := (HQ4.out.below b1 (by have := HZ.out; omega)).alloc (.cells #[.int .i64 lk, .int .i64 li] 121)
      obtain ⟨-, y0, yi, y1, y2, z0, zi, z1, z2⟩ := id q5
      have HB1 := hide b1
      clear b1 q5 x0 xi x1 x2
      go_wp2_with fail
      have hz1 := HB1.out.size
      have hz := HZ.out
      refine bodyPost_ret (v := .agg #[.int .i64 lk, .int .i64 li, .string ⟨#[]⟩, .slice none 0 0]) (by simp [results, Try.results68, go_sem, y0, yi, y1, y2]) rfl ⟨_, rfl, ⟨lk, li, ⟨#[]⟩, none, 0, .nil⟩, rfl, ⟨rfl, rfl, rfl, trivial, trivial⟩, ⟨HW.out.1, HW.out.2, (by show (0 : Nat) ≤ maxLen; exact Nat.zero_le _), ⟨Nat.le_refl _, Nat.zero_le _, fun h => by simp [Fo.len] at h⟩⟩, by simp [blk, Fo.inn], fun c hc => by simp [blk, Fo.inn] at hc, ?_⟩
      refine (((((HB2.out.trans (HB1.out.mono (by omega))).trans ((below_alloc1 _ _).mono (by omega))).setCell ?_ _).setCell ?_ _).setCell ?_ _).setCell ?_ _ <;> simp <;> omega

end Go.Proofs.Ytjlefdalobgdfaa
