import Derived.Test.YtjlefdalobgdfaaNr
import Derived.Deep.RegionLaw
namespace Go.Proofs.Ytjlefdalobgdfaa
open Go.RowKit Go.Joins

/-- A row opened: place k is the variable f + k. -/
def Fo.op (f : Int) : Fo → Fo
  | .nil => .nil
  | .cons k ix nm a cap ks r => if k = 2 then .cons 1 (f + ix) ⟨#[]⟩ none 0 .nil (r.op f) else .cons k ix nm a cap (ks.op f) (r.op f)

theorem Fo.op_app (f : Int) : ∀ F G : Fo, (F.app G).op f = (F.op f).app (G.op f)
  | .nil, _ => rfl
  | .cons k ix nm a cap ks r, G => by
    simp only [Fo.app, Fo.op]
    split <;> simp only [Fo.app, r.op_app f G]

/-- All places are small. -/
def Fo.pl : Fo → Prop
  | .nil => True
  | .cons k ix _ _ _ ks r => (k = 2 → 0 ≤ ix ∧ ix ≤ 1099511627776) ∧ ks.pl ∧ r.pl

def Nd.fo (d : Nd) : Fo := .cons d.k d.ix d.nm d.a d.cap d.ks .nil

theorem Nd.fo_ofl (d : Nd) : Fo.ofl [d] = d.fo := rfl

theorem wf_sum {f i : Int} (h0 : 0 ≤ f) (h1 : f ≤ 1099511627776) (h2 : 0 ≤ i) (h3 : i ≤ 1099511627776) : (Lit.int .i64 (f + i)).wf = true := by
  have h1 : (IntKind.i64).min = -9223372036854775808 := by decide
  have h2 : (IntKind.i64).max = 9223372036854775807 := by decide
  simp [Lit.wf, h1, h2]
  omega

set_option maxHeartbeats 1000000 in
set_option maxRecDepth 100000 in
theorem l8Var_any (i : Int) (w : World) : Calls Try.prog 83 #[.int .i64 i] w fun e w' => e = .returned (.agg #[.int .i64 1, .int .i64 i, .string ⟨#[]⟩, .slice none 0 0]) ∧ Below w.heap.size w w' := by
  go_enter Try.func83, Try.ntmps83
  go_wp2_with fail
  exact bodyPost_ret (v := .agg #[.int .i64 1, .int .i64 i, .string ⟨#[]⟩, .slice none 0 0]) (by simp [results, Try.results83, go_sem]) rfl ⟨rfl, below_alloc1 _ _⟩

/-- What the loop of the model's Open knows. -/
structure OpI (W wr : World) (f : Int) (k ix : Int) (nm : ByteArray) (a : Option Addr) (cap : Nat) (ks : Fo) (n0 : Nat) (i : Nat) (Fp r : Fo) (v : Value) (K : List Nd) : Prop where
  app : Fp.app r = ks
  len : Fp.len = i
  kl : K.length = i
  q2 : Box4 wr W.heap.size (.int .i64 k) (.int .i64 ix) (.string nm) (.slice a ks.len cap)
  q4 : Box4 wr (W.heap.size + 1) (.int .i64 0) (.int .i64 0) (.string ⟨#[]⟩) (.slice none 0 0)
  q5 : Box4 wr (W.heap.size + 1 + 1) (.int .i64 k) (.int .i64 ix) (.string nm) v
  nr : NR (W.heap.size + 1 + 1 + 1) wr v K
  ok : ∀ d ∈ K, d.Ok wr (fun c => W.heap.size + 1 + 1 + 1 ≤ c ∧ c < wr.heap.size ∧ v.ownBlock ≠ some c)
  sim : (Fo.ofl K).sim (Fp.op f)
  be : Below W.heap.size W wr
  row : 0 < r.len → ∃ b o, a = some ⟨b, o, none⟩ ∧ b < n0 ∧ r.Row wr (fun b => b < n0) b (o + i * 4)

set_option maxHeartbeats 4000000 in
set_option maxRecDepth 100000 in
theorem open_any : ∀ (m : Nat) (ks : Fo), ks.size < m → ∀ (k ix : Int) (nm : ByteArray) (f : Int) (n0 : Nat) (W : World) (a : Option Addr) (cap : Nat), n0 ≤ W.heap.size → ks.size ≤ 1048576 → 0 ≤ f → f ≤ 1099511627776 →
    (Lit.int .i64 k).wf = true → (Lit.int .i64 ix).wf = true → nm.size ≤ maxLen → ks.Sl W (fun b => b < n0) a cap → (Fo.cons k ix nm a cap ks .nil).pl →
    Calls Try.prog 74 #[nodeV k ix nm a ks.len cap, .int .i64 f] W fun e W' => ∃ v', e = .returned v' ∧ ∃ d : Nd, v' = d.v ∧ d.fo.sim ((Fo.cons k ix nm a cap ks .nil).op f) ∧ d.Ok W' (fun c => W.heap.size ≤ c ∧ c < W'.heap.size) ∧ Below W.heap.size W W' := by
  intro m
  induction m with
  | zero => intro F hF; omega
  | succ m ih =>
    intro ks hF k ix nm f n0 W a cap hn hsz hf0 hf1 hk hix hnm hs hpl
    unfold nodeV
    have q0 := Box4.new W (.int .i64 k) (.int .i64 ix) (.string nm) (.slice a ks.len cap) 29
    by_cases hk2 : k = 2
    · subst hk2
      obtain ⟨h0, h1⟩ := hpl.1 rfl
      have hw := wf_sum hf0 hf1 h0 h1
      have hop : (Fo.cons 2 ix nm a cap ks .nil).op f = .cons 1 (f + ix) ⟨#[]⟩ none 0 .nil .nil := by simp [Fo.op]
      rw [hop]
      have b0 := below_alloc2 W (.cells #[.int .i64 2, .int .i64 ix, .string nm, .slice a ks.len cap] 29) (.cells #[.int .i64 0, .int .i64 0, .string ⟨#[]⟩, .slice none 0 0] 29)
      have q4 := Box4.new (W.alloc (.cells #[.int .i64 2, .int .i64 ix, .string nm, .slice a ks.len cap] 29)) (.int .i64 0) (.int .i64 0) (.string ⟨#[]⟩) (.slice none 0 0) 29
      rw [World.size_alloc] at q4
      have q2 := q0.alloc (.cells #[.int .i64 0, .int .i64 0, .string ⟨#[]⟩, .slice none 0 0] 29)
      have hz : ((W.alloc (.cells #[.int .i64 2, .int .i64 ix, .string nm, .slice a ks.len cap] 29)).alloc (.cells #[.int .i64 0, .int .i64 0, .string ⟨#[]⟩, .slice none 0 0] 29)).heap.size = W.heap.size + 1 + 1 := by simp
      obtain ⟨W1, hW1⟩ : ∃ W1, ((W.alloc (.cells #[.int .i64 2, .int .i64 ix, .string nm, .slice a ks.len cap] 29)).alloc (.cells #[.int .i64 0, .int .i64 0, .string ⟨#[]⟩, .slice none 0 0] 29)) = W1 := ⟨_, rfl⟩
      rw [hW1] at b0 q2 q4 hz
      have HV := hide (l8Var_any (f + ix))
      have HQ4 := hide q4
      have HB0 := hide b0
      have HZ := hide hz
      have HW := hide hw
      have hfx : f + ix ≤ 9223372036854775807 := by omega
      have hfx0 : -9223372036854775808 ≤ f + ix := by omega
      obtain ⟨-, x0, xi, x1, x2, -, -, -, -⟩ := id q2
      clear ih hs hpl hop q0 q2 q4 b0 hz hw
      go_enter Try.func74, Try.ntmps74
      go_upto_region 1 with fail
      clear hW1
      go_wp2_with fail
      refine (HV.out W1).mono ?_
      rintro e w1 ⟨rfl, b1⟩
      have q5 := HQ4.out.below b1 (by have := HZ.out; omega)
      obtain ⟨-, y0, yi, y1, y2, z0, zi, z1, z2⟩ := id q5
      have HB1 := hide b1
      have HQ5 := hide q5
      clear b1 q5 x0 xi x1 x2
      go_wp2_with fail
      have hz1 := HB1.out.size
      have hz := HZ.out
      refine bodyPost_ret (v := .agg #[.int .i64 1, .int .i64 (f + ix), .string ⟨#[]⟩, .slice none 0 0]) (by simp [results, Try.results74, go_sem, y0, yi, y1, y2]) rfl ⟨_, rfl, ⟨1, f + ix, ⟨#[]⟩, none, 0, .nil⟩, rfl, ⟨rfl, rfl, rfl, trivial, trivial⟩, ⟨(by show (Lit.int .i64 1).wf = true; decide), HW.out, (by show (0 : Nat) ≤ maxLen; exact Nat.zero_le _), ⟨Nat.le_refl _, Nat.zero_le _, fun h => by simp [Fo.len] at h⟩⟩, ?_⟩
      refine ((((HB0.out.trans (HB1.out.mono (by omega))).setCell ?_ _).setCell ?_ _).setCell ?_ _).setCell ?_ _ <;> simp <;> omega
    · have hkb : (k == 2) = false := by simpa using hk2
      have hop : (Fo.cons k ix nm a cap ks .nil).op f = .cons k ix nm a cap (ks.op f) .nil := by simp [Fo.op, hk2]
      rw [hop]
      have b0 := below_alloc3 W (.cells #[.int .i64 k, .int .i64 ix, .string nm, .slice a ks.len cap] 29) (.cells #[.int .i64 0, .int .i64 0, .string ⟨#[]⟩, .slice none 0 0] 29) (.cells #[.int .i64 k, .int .i64 ix, .string nm, .slice none 0 0] 29)
      have q4 := (Box4.new (W.alloc (.cells #[.int .i64 k, .int .i64 ix, .string nm, .slice a ks.len cap] 29)) (.int .i64 0) (.int .i64 0) (.string ⟨#[]⟩) (.slice none 0 0) 29).alloc (.cells #[.int .i64 k, .int .i64 ix, .string nm, .slice none 0 0] 29)
      have q5 := Box4.new ((W.alloc (.cells #[.int .i64 k, .int .i64 ix, .string nm, .slice a ks.len cap] 29)).alloc (.cells #[.int .i64 0, .int .i64 0, .string ⟨#[]⟩, .slice none 0 0] 29)) (.int .i64 k) (.int .i64 ix) (.string nm) (.slice none 0 0) 29
      rw [World.size_alloc] at q4
      rw [World.size_alloc, World.size_alloc] at q5
      have q2 := (q0.alloc (.cells #[.int .i64 0, .int .i64 0, .string ⟨#[]⟩, .slice none 0 0] 29)).alloc (.cells #[.int .i64 k, .int .i64 ix, .string nm, .slice none 0 0] 29)
      have hI0 : OpI W _ f k ix nm a cap ks n0 0 .nil ks (.slice none 0 0) [] := ⟨rfl, rfl, rfl, q2, q4, q5, NR.nil _ _, fun d hd => (by cases hd), trivial, b0, fun hl => (hs.below b0 (fun b x => by omega)).2.2 hl⟩
      have HI0 := hide hI0
      have HIH := hide ih
      have HPL := hide hpl.2.1
      have hmx : ks.len ≤ 9223372036854775807 := by have h2 := hs.1; have h3 := hs.2.1; simp only [maxLen] at h3; omega
      clear ih hs hpl hop q0 q2 q4 q5 b0 hI0
      go_enter Try.func74, Try.ntmps74
      go_wp2_with fail
      generalize ((W.alloc (.cells #[.int .i64 k, .int .i64 ix, .string nm, .slice a ks.len cap] 29)).alloc (.cells #[.int .i64 0, .int .i64 0, .string ⟨#[]⟩, .slice none 0 0] 29)).alloc (.cells #[.int .i64 k, .int .i64 ix, .string nm, .slice none 0 0] 29) = W0 at *
      go_loopw [6] (fun s6 wr => ∃ (i : Nat) (Fp r : Fo) (pa : Option Addr) (pc : Nat) (K : List Nd), s6 = .int .i64 i ∧ i ≤ ks.len ∧ Hid (OpI W wr f k ix nm a cap ks n0 i Fp r (.slice pa i pc) K) ∧ Hid (r.pl)) (fun s6 _ => ks.len - (intOf s6).toNat)
      case atStart => exact ⟨0, .nil, ks, none, 0, [], rfl, Nat.zero_le _, HI0.out, HPL.out⟩
      case round =>
        obtain ⟨i, Fp, r, pa, pc, K, rfl, hi, HI, HPR⟩ := hrel
        have hlen : i + r.len = ks.len := by have h1 := HI.out.app; have h2 := HI.out.len; rw [← h1, Fo.app_len, h2]
        obtain ⟨-, x0, xi, x1, x2, -, -, -, -⟩ := HI.out.q2
        obtain ⟨-, z0, zi, z1, z2, g0, gi, g1, g2⟩ := HI.out.q4
        obtain ⟨-, p0, pi, p1, p2, f0, fi, f1, f2⟩ := HI.out.q5
        cases r with
        | nil =>
          simp only [Fo.len] at hlen
          have hlt' : ¬ (i : Int) < ks.len := by omega
          go_wp2_with fail
          obtain ⟨w3, hw3⟩ : ∃ w3, (((wr.setCell ⟨W.heap.size + 1, 0, none⟩ (.int .i64 k)).setCell ⟨W.heap.size + 1, 1, none⟩ (.int .i64 ix)).setCell ⟨W.heap.size + 1, 2, none⟩ (.string nm)).setCell ⟨W.heap.size + 1, 3, none⟩ (.slice pa i pc) = w3 := ⟨_, rfl⟩
          have k3 : Kept (fun c => c ≠ W.heap.size + 1) wr w3 := by
            rw [← hw3]
            exact (((Kept.setCell _ _ _ _ (by simp)).trans (Kept.setCell _ _ _ _ (by simp))).trans (Kept.setCell _ _ _ _ (by simp))).trans (Kept.setCell _ _ _ _ (by simp))
          have hkl := HI.out.kl
          have hol : (Fo.ofl K).len = i := by rw [Fo.ofl_len]; exact hkl
          have hFp : Fp = ks := by have := HI.out.app; rwa [Fo.app_nil] at this
          have hsl := (HI.out.nr.fo (S := fun c => W.heap.size + 1 + 1 + 1 ≤ c ∧ c < wr.heap.size) hkl.symm (fun d hd => (HI.out.ok d hd).keep (fun c h => ⟨h.1, h.2.1⟩) (fun _ _ _ h => h)) (fun c h1 h2 => ⟨h1, h2⟩)).kept k3 (fun c hc => ⟨by omega, hc.2⟩)
          refine bodyPost_ret (v := .agg #[.int .i64 k, .int .i64 ix, .string nm, .slice pa i pc]) (by simp [results, Try.results74, go_sem, z0, zi, z1, z2]) rfl ⟨_, rfl, ⟨k, ix, nm, pa, pc, Fo.ofl K⟩, by unfold Nd.v nodeV; rw [hol], ⟨rfl, rfl, rfl, by rw [← hFp]; exact HI.out.sim, trivial⟩, ⟨hk, hix, hnm, ?_⟩, ?_⟩
          · rw [hw3]
            exact hsl.mono (fun c hc => ⟨by omega, Nat.lt_of_lt_of_le hc.2 k3.size⟩)
          · rw [hw3]
            exact Below.kept HI.out.be k3 (fun c hc => by omega) (Nat.le_refl _)
        | cons k' ix' nm' ka kcap ks' r =>
          simp only [Fo.len] at hlen
          have hlt' : (i : Int) < ks.len := by omega
          obtain ⟨b, o, rfl, hb, hk', hix', hnm', c1, ci, c2, c3, h4, h5, h6, h7⟩ := HI.out.row (by simp [Fo.len])
          have hszr : Fp.size + (1 + ks'.size + r.size) = ks.size := by have h1 := HI.out.app; rw [← h1, Fo.app_size]; rfl
          have hks : ks'.Sl wr (fun b => b < n0) ka kcap := ⟨h4, h5, h6⟩
          have hwr : W.heap.size + 1 + 1 < wr.heap.size := HI.out.q5.lt
          have hbe := HI.out.be.size
          have HCB : Hid (∀ W2, Kept (fun _ => True) wr W2 → Calls Try.prog 74 #[.agg #[.int .i64 k', .int .i64 ix', .string nm', .slice ka ks'.len kcap], .int .i64 f] W2 fun e w' => ∃ v', e = .returned v' ∧ ∃ d : Nd, v' = d.v ∧ d.fo.sim ((Fo.cons k' ix' nm' ka kcap ks' .nil).op f) ∧ d.Ok w' (fun c => W2.heap.size ≤ c ∧ c < w'.heap.size) ∧ Below W2.heap.size W2 w') := fun W2 kW => by
            have h1 := HIH.out ks' (by omega) k' ix' nm' f n0 W2 ka kcap (by have := kW.size; omega) (by omega) hf0 hf1 hk' hix' hnm' (hks.kept kW (fun b x => ⟨trivial, by omega⟩)) ⟨HPR.out.1, HPR.out.2.1, trivial⟩
            unfold nodeV at h1
            exact h1
          have HLN := hide HI.out.kl
          have HLK : Hid (K.length < 2097152) := by unfold Hid; rw [HLN.out]; have := ks.len_le; omega
          have HNB : Hid (∀ W2 ob, Kept (fun _ => True) wr W2 → NR (W.heap.size + 1 + 1 + 1) (W2.alloc ob) (.slice pa i pc) K) := fun W2 ob kW => HI.out.nr.kept (kW.trans (Kept.alloc _ _ _)) (fun _ _ => trivial)
          have HSG : Hid (∀ W2 ob W7, Kept (fun _ => True) wr W2 → (W2.alloc ob).grownBy W7 (Value.slice pa i pc).ownBlock → Kept (fun c => (Value.slice pa i pc).ownBlock ≠ some c) wr W7) := fun W2 ob W7 kW hg =>
            ((kW.trans (Kept.alloc _ _ _)).mono (fun _ _ _ => trivial)).trans (Kept.grown hg (fun c e h => h e))
          have HOB : Hid (∀ c, (Value.slice pa i pc).ownBlock = some c → W.heap.size + 1 + 1 + 1 ≤ c ∧ c < wr.heap.size) := HI.out.nr.blk
          have HQ5 := hide HI.out.q5
          have H7 := hide h7
          have hne5 : (Value.slice pa i pc).ownBlock ≠ some (W.heap.size + 1 + 1) := fun h => by have := (HOB.out _ h).1; omega
          have HNE := hide hne5
          have FIN : Hid (∀ (w5 : World) (x' : Nd) (ob : Obj) (g7 cp : Nat) (w7 : World), Kept (fun _ => True) wr w5 → (x'.fo.sim ((Fo.cons k' ix' nm' ka kcap ks' .nil).op f) ∧ x'.Ok w5 (fun c => wr.heap.size ≤ c ∧ c < w5.heap.size)) → NR (W.heap.size + 1 + 1 + 1) w7 (.slice (some ⟨g7, 0, none⟩) (i + 1) cp) (K ++ [x']) →
              (w5.alloc ob).grownBy w7 (Value.slice pa i pc).ownBlock → ((Value.slice pa i pc).ownBlock = some g7 ∨ g7 = (w5.alloc ob).heap.size) →
              OpI W (w7.setCell ⟨W.heap.size + 1 + 1, 3, none⟩ (.slice (some ⟨g7, 0, none⟩) (i + 1) cp)) f k ix nm (some ⟨b, o, none⟩) cap ks n0 (i + 1) (Fp.app (.cons k' ix' nm' ka kcap ks' .nil)) r (.slice (some ⟨g7, 0, none⟩) (i + 1) cp) (K ++ [x'])) := by
            intro w5 x' ob g7 cp w7 k5 ⟨sx, okx⟩ hR7 hG7 hat7
            obtain ⟨w8, hw8⟩ : ∃ w8, w7.setCell ⟨W.heap.size + 1 + 1, 3, none⟩ (.slice (some ⟨g7, 0, none⟩) (i + 1) cp) = w8 := ⟨_, rfl⟩
            have k57 : Kept (fun c => (Value.slice pa i pc).ownBlock ≠ some c) w5 w7 := (Kept.alloc _ _ _).trans (Kept.grown hG7 (fun c e h => h e))
            have k7 := HSG.out w5 ob w7 k5 hG7
            have k8 : Kept (fun c => c ≠ W.heap.size + 1 + 1) w7 w8 := by rw [← hw8]; exact Kept.setCell _ _ _ _ (by simp)
            have z5 := k5.size
            have z7 := k57.size
            have z8 := k8.size
            have k08 : Kept (fun c => (Value.slice pa i pc).ownBlock ≠ some c ∧ c ≠ W.heap.size + 1 + 1) wr w8 := (k7.mono (fun c _ h => h.1)).trans (k8.mono (fun c _ h => h.2))
            have k58 : Kept (fun c => (Value.slice pa i pc).ownBlock ≠ some c ∧ c ≠ W.heap.size + 1 + 1) w5 w8 := (k57.mono (fun c _ h => h.1)).trans (k8.mono (fun c _ h => h.2))
            have hlow : ∀ c, c < W.heap.size + 1 + 1 → (Value.slice pa i pc).ownBlock ≠ some c ∧ c ≠ W.heap.size + 1 + 1 := fun c hc => ⟨fun h => by have := (HOB.out _ h).1; omega, by omega⟩
            have hq5 := HQ5.out.kept k7 HNE.out
            have hg7 : W.heap.size + 1 + 1 + 1 ≤ g7 := by
              rcases hat7 with h | h
              · exact (HOB.out _ h).1
              · rw [h, World.size_alloc]; omega
            have hnew : ∀ c, c < w5.heap.size → (Value.slice pa i pc).ownBlock ≠ some c → (Value.slice (some ⟨g7, 0, none⟩) (i + 1) cp).ownBlock ≠ some c := fun c hc hne h => by
              have e : g7 = c := Option.some.inj h
              rcases hat7 with h2 | h2
              · exact hne (by rw [h2, e])
              · rw [World.size_alloc] at h2; omega
            rw [hw8]
            refine ⟨by rw [Fo.app_assoc]; exact HI.out.app, by rw [Fo.app_len, HI.out.len]; rfl, by rw [List.length_append, HI.out.kl]; rfl, HI.out.q2.kept k08 (hlow _ (by omega)), HI.out.q4.kept k08 (hlow _ (by omega)), ?_, ?_, ?_, ?_, ?_, fun _ => ⟨b, o, rfl, hb, ?_⟩⟩
            · rw [← hw8]
              obtain ⟨l, p0, pi, p1, p2, s0, si, s1, s2⟩ := hq5
              refine ⟨by simpa [World.setCell] using l, ?_, ?_, ?_, World.cell?_setCell_same' _ _ _ (by rw [p2]; rfl), by rw [World.frozen?_setCell]; exact s0, by rw [World.frozen?_setCell]; exact si, by rw [World.frozen?_setCell]; exact s1, by rw [World.frozen?_setCell]; exact s2⟩
              · exact (World.cell?_setCell_other _ _ _ _ (by simp)).trans p0
              · exact (World.cell?_setCell_other _ _ _ _ (by simp)).trans pi
              · exact (World.cell?_setCell_other _ _ _ _ (by simp)).trans p1
            · exact hR7.kept k8 (fun c hc => by have : g7 = c := Option.some.inj hc; omega)
            · intro d hd
              rcases List.mem_append.1 hd with hd | hd
              · exact (HI.out.ok d hd).keep (fun c h => ⟨h.1, by omega, hnew c (by omega) h.2.2⟩) (fun p hp v hv => (k08.cell (p := p) hp.2.1 ⟨hp.2.2, by have := hp.1; omega⟩).trans hv)
              · have e : d = x' := by simpa using hd
                subst e
                refine okx.keep (fun c h => ⟨by omega, by omega, hnew c h.2 (fun h2 => by have := (HOB.out _ h2).2; omega)⟩) (fun p hp v hv => (k58.cell (p := p) hp.2 ⟨fun h2 => by have := (HOB.out _ h2).2; have := hp.1; omega, by have := hp.1; omega⟩).trans hv)
            · rw [Fo.ofl_app, Fo.op_app]
              exact HI.out.sim.app sx
            · exact Below.kept HI.out.be k08 (fun c hc => hlow c (by omega)) (Nat.le_refl _)
            · have e : o + (i + 1) * 4 = o + i * 4 + 4 := by omega
              rw [e]
              exact H7.out.keep (fun _ x => x) (fun p hp v hv => (k08.cell (p := p) (by have : p.block < n0 := hp; omega) (hlow _ (by have : p.block < n0 := hp; omega))).trans hv) (fun j _ _ v hv => (k08.cell (p := ⟨b, j, none⟩) (by show b < _; omega) (hlow _ (by show b < _; omega))).trans hv)
          have HPR2 : Hid r.pl := HPR.out.2.2
          clear hks h4 h5 h6 h7 hne5
          go_wp2_with fail
          go_region_law (first
            | (refine step_call (by rfl) 74 #[.agg #[.int .i64 k', .int .i64 ix', .string nm', .slice ka ks'.len kcap], .int .i64 f] (by simp [go_sem]) _ (HCB.out _ ⟨rfl, rfl, rfl, Nat.le_refl _, fun _ _ _ => rfl⟩) ?_; rintro v5 w5 ⟨x', rfl, sx, okx, b5⟩; have HK5 : Hid (Kept (fun _ => True) wr w5) := ⟨b5.os, b5.tape, b5.output, b5.size, fun c hc _ => b5.block c hc⟩; have HP5 : Hid (x'.fo.sim ((Fo.cons k' ix' nm' ka kcap ks' .nil).op f) ∧ x'.Ok w5 (fun c => wr.heap.size ≤ c ∧ c < w5.heap.size)) := ⟨sx, okx⟩; obtain ⟨-, p0, pi, p1, p2, s0, si, s1, s2⟩ := HQ5.out.kept HK5.out trivial; have pb : (w5.alloc (.cells #[.int .i64 x'.k, .int .i64 x'.ix, .string x'.nm, .slice x'.a x'.ks.len x'.cap] 29)).cell? ⟨W.heap.size + 1 + 1, 3, none⟩ = some (.slice pa i pc) := ((HQ5.out.kept HK5.out trivial).alloc _).c2; clear sx okx b5; unfold Nd.v nodeV)
            | (refine nr_draw (by rfl) _ _ (by rfl) (W.heap.size + 1 + 1 + 1) _ (.slice pa i pc) K x' _ _ i HLN.out (by rfl) (HNB.out _ _ HK5.out) (by rfl) (heap_new _ _) (by have := HK5.out.size; simp; omega) HLK.out ?_; intro g7 cp w7 hR7 hG7 hat7; have HK7 := hide (HSG.out _ _ _ HK5.out hG7); obtain ⟨-, p0, pi, p1, p2, s0, si, s1, s2⟩ := HQ5.out.kept HK7.out HNE.out))
          all_goals
            have HF := hide (FIN.out _ _ _ _ _ _ HK5.out HP5.out hR7 hG7 hat7)
            clear hR7 hG7 hat7 HK7
            go_wp2_with fail
            go_roundw
            case rel => exact ⟨i + 1, _, r, _, _, _, by go_num, by omega, HF.out, HPR2.out⟩
            case measure => simp [intOf]; omega

end Go.Proofs.Ytjlefdalobgdfaa
