import Derived.Test.YtfgmgbkiebeeoaaXh
import Derived.Deep.LoopGhost
import Derived.Test.YtfgmgbkiebeeoaaJE
import Derived.Test.YtfgmgbkiebeeoaaJF
namespace Go.Proofs.Ytfgmgbkiebeeoaa
open Go.RowKit Go.Joins

/-- The last one that waits is taken. -/
theorem St.pop {OK OA : Nat → Nat} {RG : Nat → Option Value} {lo G wb fb : Nat} {V : World} {KK AA Q0 : List (Nat × Nat)} {p : Nat × Nat} {mk sk ma sa wv : Value} (h : St OK OA RG lo G wb fb V KK AA (Q0 ++ [p]) mk sk ma sa wv) :
    ∃ r cap, wv = .slice (some ⟨r, 0, none⟩) (Q0.length + 1) cap ∧ V.cell? ⟨wb, 0, none⟩ = some (.slice (some ⟨r, 0, none⟩) (Q0.length + 1) cap) ∧ V.frozen? ⟨wb, 0, none⟩ = false ∧ V.cell? ⟨r, Q0.length, none⟩ = some (.pointer (some ⟨p.1, p.2, none⟩)) ∧ Q0.length + 1 ≤ cap ∧
      St OK OA RG lo G wb fb (V.setCell ⟨wb, 0, none⟩ (.slice (some ⟨r, 0, none⟩) Q0.length cap)) KK AA Q0 mk sk ma sa (.slice (some ⟨r, 0, none⟩) Q0.length cap) ∧ Kept (fun d => d ≠ wb) V (V.setCell ⟨wb, 0, none⟩ (.slice (some ⟨r, 0, none⟩) Q0.length cap)) := by
  have hq := h.q
  have hlen : (Q0 ++ [p]).length = Q0.length + 1 := by simp
  rw [hlen, List.map_append] at hq
  have hq2 := hq
  rcases hq2.2 with ⟨-, e2⟩ | ⟨r, cap, cur, rfl, hb, hg, hc, hm, hs, ht⟩
  · omega
  have ks : Kept (fun d => d ≠ wb) V (V.setCell ⟨wb, 0, none⟩ (.slice (some ⟨r, 0, none⟩) Q0.length cap)) := Kept.setCell _ _ _ _ (fun hx => hx rfl)
  have hw := h.hw
  have gG : G ≠ wb := fun e => hw.2 e.symm
  have hG := h.k.hg
  have hv := h.k.hv
  have cG : ∀ j, (V.setCell ⟨wb, 0, none⟩ (.slice (some ⟨r, 0, none⟩) Q0.length cap)).cell? ⟨G, j, none⟩ = V.cell? ⟨G, j, none⟩ := fun j => ks.cell (p := ⟨G, j, none⟩) (by show G < _; omega) gG
  have fG : ∀ j, (V.setCell ⟨wb, 0, none⟩ (.slice (some ⟨r, 0, none⟩) Q0.length cap)).frozen? ⟨G, j, none⟩ = false := fun j => (ks.frozen (p := ⟨G, j, none⟩) (by show G < _; omega) gG).trans (h.k.gf j)
  have blo : ∀ d, (mk = .map (some d) ∨ sk.ownBlock = some d) ∨ (ma = .map (some d) ∨ sa.ownBlock = some d) → d ≠ wb := fun d hd => by
    obtain ⟨a1, a2, a3⟩ := h.apart
    have : lo ≤ d := by
      rcases hd with (e | e) | (e | e)
      · exact (a2 d e).2.2
      · exact ownsRow_blk h.k.ow d e
      · exact (a3 d e).2.2
      · exact ownsRow_blk h.a.ow d e
    omega
  refine ⟨r, cap, rfl, h.w.cel 0 _ rfl, h.w.live 0, ?_, hc, ⟨h.k.frame ks (fun e he => h.hl.1 e he) (fun d hd => blo d (.inl hd)) ((cG 0).trans h.k.gm) ((cG 1).trans h.k.gs) fG, h.a.frame ks (fun e he => h.hl.2 e he) (fun d hd => blo d (.inr hd)) ((cG 4).trans h.a.gm) ((cG 5).trans h.a.gs) fG, (h.w.put 0 _ (by simp) : Bx _ wb [_]), h.f.kept ks h.hf.2.2, ?_, h.dM, h.dS, h.hw, h.hf, h.hl, fun j a b c d => (cG j).trans (h.rg j a b c d)⟩, ks⟩
  · have := hq.cells (g := r) rfl Q0.length (kp p) (by simp)
    rwa [addr_add, Nat.zero_add] at this
  · have o1 : V.ownsRow lo 87 1 (.slice (some ⟨r, 0, none⟩) Q0.length cap) Q0.length (Q0.map kp) := by
      refine ⟨by simp, .inr ⟨r, cap, cur, rfl, hb, hg, by omega, hm, hs, ?_⟩⟩
      have := congrArg (List.take (Q0.length * 1)) ht
      rw [List.take_take, Nat.min_eq_left (by omega)] at this
      rw [this, Nat.mul_one]
      exact List.take_left' (by simp)
    exact ownsRow_kept o1 ks (fun c e => by have e2 : r = c := Option.some.inj e; rw [← e2]; show r ≠ wb; omega)

/-- The start of the walk. -/
theorem St.start {O : Nat → Nat} {lo G wb fb : Nat} {V : World} (hv : lo ≤ V.heap.size) (hG : G < lo) (hw : wb < lo ∧ wb ≠ G) (hf : fb < lo ∧ fb ≠ G ∧ fb ≠ wb) (lv : Value) (M0 : Nat) (bg : Bx V G [.map none, .slice none 0 0, .slice none 0 0, .slice none 0 0, .map none, .slice none 0 0, .slice none 0 0, .slice none 0 0, .slice none 0 0, lv, .map (some M0)]) (bw : Bx V wb [.slice none 0 0]) (bf : Bx V fb [wfn wb]) :
    St O O (fun j => V.cell? ⟨G, j, none⟩) lo G wb fb V [] [] [] (.map none) (.slice none 0 0) (.map none) (.slice none 0 0) (.slice none 0 0) :=
  ⟨⟨bg.cel 0 _ rfl, bg.cel 1 _ rfl, bg.live, .inl ⟨rfl, rfl⟩, World.ownsRow_nil _ _ _ _, (fun e he => by cases he), hv, hG⟩, ⟨bg.cel 4 _ rfl, bg.cel 5 _ rfl, bg.live, .inl ⟨rfl, rfl⟩, World.ownsRow_nil _ _ _ _, (fun e he => by cases he), hv, hG⟩, bw, bf, World.ownsRow_nil _ _ _ _, (fun M e => by cases e), (fun b e => by cases e), hw, hf, ⟨(fun e he => by cases he), (fun e he => by cases he)⟩, fun _ _ _ _ _ => rfl⟩

/-- Nothing is known yet; the list of roots is to come. -/
theorem GI.start {O : Nat → Nat} {W : World} {S : Nat → Prop} {F : Fo} {R : List Nat} (hn : R.Nodup) : GI O W S [] [] [] [] [] [] R (tcK F) (tcK F) :=
  ⟨rfl, rfl, (fun i e r he => by simp at he), (fun i e r he => by simp at he), (fun d hd => by simp [ndK, ndA] at hd), (fun d hd => by cases hd), (fun d hd => by simp [ndK, ndA] at hd), (by simpa using hn), (by simp [ndK, ndA]), (by simp [ndK, ndA]), ⟨(fun r hr => by cases hr), (fun r hr => by cases hr)⟩⟩

section
variable {O : Nat → Nat} {RG : Nat → Option Value} {W0 : World} {lo G wb fb : Nat} {V : World} {KK AA : List (Nat × Nat)} {KR AR : List Fo} {Q0 : List Nd} {d : Nd} {tot : Nat}

/-- The last term that waits is at hand. -/
theorem GX.take (h : GX O RG W0 (SB W0 lo G wb) lo G wb fb V KK AA KR AR (Q0 ++ [d]) [] [] 0 tot) :
    ∃ r cap, V.cell? ⟨wb, 0, none⟩ = some (.slice (some ⟨r, 0, none⟩) (Q0.length + 1) cap) ∧ V.frozen? ⟨wb, 0, none⟩ = false ∧ V.cell? ⟨r, Q0.length, none⟩ = some (.pointer (some ⟨d.b, d.o, none⟩)) ∧ Q0.length + 1 ≤ cap ∧
      GX O RG W0 (SB W0 lo G wb) lo G wb fb (V.setCell ⟨wb, 0, none⟩ (.slice (some ⟨r, 0, none⟩) Q0.length cap)) KK AA KR AR Q0 [d] d.x.inn (tcK d.x - 1) tot ∧ d.Ok W0 (SB W0 lo G wb) ∧ Offs O d.x ∧ 1 ≤ tcK d.x ∧ (∀ V', Kept (fun d => d < lo ∧ d ≠ G ∧ d ≠ wb) W0 V' → Cel V' d.x.vals d.b d.o) := by
  obtain ⟨⟨mk, sk, ma, sa, wv, st⟩, gi, hk⟩ := h
  rw [List.map_append] at st
  obtain ⟨r, cap, -, h2, h3, h4, h5, h6, h7⟩ := st.pop
  rw [List.length_map] at h2 h4 h5 h6 h7
  obtain ⟨g1, g2⟩ := gi.pop
  obtain ⟨o1, o2⟩ := gi.ok d (gi.qs d (by simp))
  exact ⟨r, cap, h2, h3, h4, h5, ⟨⟨mk, sk, ma, sa, _, h6⟩, g1, hk.trans (h7.mono (fun _ _ hd => hd.2.2))⟩, o1, o2, g2, fun V' k => o1.cel.kept k o1.at_.2.1 ⟨lt5 o1.at_.2.2.1, o1.at_.2.2.2.1, o1.at_.2.2.2.2⟩⟩
end

end Go.Proofs.Ytfgmgbkiebeeoaa

namespace Go.Proofs.Ytfgmgbkiebeeoaa
open Go.RowKit Go.Joins

section
variable {O : Nat → Nat} {RG : Nat → Option Value} {W0 : World} {lo G wb fb : Nat} {V : World} {KK AA : List (Nat × Nat)} {KR AR : List Fo} {Q0 : List Nd} {d : Nd} {tot : Nat} {k : Int} {nm : ByteArray} {mn : Bool} {la : Option Addr} {ln lc : Nat} {lk : Fo} {na : Option Addr} {nn nc : Nat} {nk : Fo} {ka : Option Addr} {kn kc : Nat} {kk : Fo} {aa : Option Addr} {an ac : Nat} {ak : Fo}

/-- The kids of the term at hand. -/
theorem GX.kids (h : GX O RG W0 (SB W0 lo G wb) lo G wb fb V KK AA KR AR Q0 [d] d.x.inn (tcK d.x - 1) tot) (hx : d.x = .v (.int .i64 k) (.v (.string nm) (.v (.bool mn) (.s la ln lc lk (.s na nn nc nk (.s ka kn kc kk (.s aa an ac ak .nil))))))) (hf : Fit E kk (rep (E 3) kn)) (hs : d.x.Subs W0 (SB W0 lo G wb)) (ho : Offs O d.x) (ht : tot ≤ 4000000) :
    Calls Try.prog 36 #[.pointer (some ⟨G, 0, none⟩), .slice ka kn kc, wfn wb] V fun e V' => e = .returned (.tuple #[]) ∧ ∃ K2 R2 Q2, GX O RG W0 (SB W0 lo G wb) lo G wb fb V' (KK ++ K2) AA (KR ++ R2) AR (Q0 ++ Q2) [d] ((blk aa ak.len ++ ak.inn) ++ []) (tcA ak + 0) tot ∧ (0 < kn → ∃ i b : Nat, ka = some ⟨b, O b, none⟩ ∧ (KK ++ K2)[i]? = some (b, kn) ∧ (KR ++ R2)[i]? = some kk) ∧ (Q2.map (fun d => tcK d.x)).sum = tcK kk := by
  rw [hx] at h hs ho
  obtain ⟨st, gi, hk⟩ := h
  have gi2 : GI O W0 (SB W0 lo G wb) KK AA KR AR Q0 [d] ((blk ka kk.len ++ kk.inn) ++ ((blk aa ak.len ++ ak.inn) ++ [])) (tcK kk + (tcA ak + 0)) tot := by
    have := gi.less (R' := (blk ka kk.len ++ kk.inn) ++ ((blk aa ak.len ++ ak.inn) ++ [])) (by
      simp only [Fo.inn]
      exact List.Sublist.trans (List.sublist_append_right _ _) (List.sublist_append_right _ _))
    rw [tcK_nd, tcK_nil] at this
    have e : 1 + tcK kk + tcA ak + 0 - 1 = tcK kk + (tcA ak + 0) := by omega
    rw [e] at this
    exact this
  simp only [Offs] at ho
  refine (add_kids ⟨st, gi2, hk⟩ hf hs.2.2.1 ⟨ho.2.2.2.2.1, ho.2.2.2.2.2.1, trivial⟩ ht).mono ?_
  rintro e V' ⟨rfl, K2, R2, Q2, g1, g2, g3⟩
  exact ⟨rfl, _, _, Q2, g1, g2, g3⟩

/-- And its alternatives. -/
theorem GX.alts (h : GX O RG W0 (SB W0 lo G wb) lo G wb fb V KK AA KR AR Q0 [d] ((blk aa ak.len ++ ak.inn) ++ []) (tcA ak + 0) tot) (hx : d.x = .v (.int .i64 k) (.v (.string nm) (.v (.bool mn) (.s la ln lc lk (.s na nn nc nk (.s ka kn kc kk (.s aa an ac ak .nil))))))) (hf : Fit E ak (rep (E 2) an)) (hs : d.x.Subs W0 (SB W0 lo G wb)) (ho : Offs O d.x) (ht : tot ≤ 4000000)
    (hd : 0 < kn → ∃ i b : Nat, ka = some ⟨b, O b, none⟩ ∧ KK[i]? = some (b, kn) ∧ KR[i]? = some kk) :
    Calls Try.prog 37 #[.pointer (some ⟨G, 4, none⟩), .slice aa an ac, afn fb] V fun e V' => e = .returned (.tuple #[]) ∧ ∃ AA' AR' Q2, GX O RG W0 (SB W0 lo G wb) lo G wb fb V' KK AA' KR AR' (Q0 ++ Q2) [] [] 0 tot ∧ (Q2.map (fun d => tcK d.x)).sum = tcA ak := by
  rw [hx] at hs ho
  simp only [Offs] at ho
  refine (add_alts h hf hs.2.2.2.1 ⟨ho.2.2.2.2.2.2.1, ho.2.2.2.2.2.2.2.1, trivial⟩ ht).mono ?_
  rintro e V' ⟨rfl, K2, R2, Q2, ⟨st, gi, hk⟩, g2, g3⟩
  refine ⟨rfl, _, _, Q2, ⟨st, gi.done ?_, hk⟩, g3⟩
  rw [hx]
  exact ⟨hd, g2⟩
end

/-- Where the walk is. -/
def GW (O : Nat → Nat) (RG : Nat → Option Value) (W0 : World) (lo G wb fb tot : Nat) (Qd : List Nd) (V : World) : Prop := ∃ KK AA KR AR, GX O RG W0 (SB W0 lo G wb) lo G wb fb V KK AA KR AR Qd [] [] 0 tot

theorem gw_kept {O : Nat → Nat} {RG : Nat → Option Value} {W0 : World} {S : Nat → Prop} {lo G wb fb : Nat} {V V' : World} {KK AA : List (Nat × Nat)} {KR AR : List Fo} {Qd X : List Nd} {R : List Nat} {c tot : Nat} (h : GX O RG W0 S lo G wb fb V KK AA KR AR Qd X R c tot) (k : Kept (fun _ => True) V V') : GX O RG W0 S lo G wb fb V' KK AA KR AR Qd X R c tot := by
  obtain ⟨⟨mk, sk, ma, sa, wv, st⟩, gi, hk⟩ := h
  exact ⟨⟨mk, sk, ma, sa, wv, st.kept k⟩, gi, hk.trans (k.mono (fun _ _ _ => trivial))⟩

end Go.Proofs.Ytfgmgbkiebeeoaa

namespace Go.Proofs.Ytfgmgbkiebeeoaa
open Go.RowKit Go.Joins

/-- The list of roots. -/
structure RT (W : World) (rb : Nat) (F : Fo) : Prop where
  fit : Fit E F (rep (E 3) 1)
  sub : Fo.Subs W (fun c => c < W.heap.size) (.s (some ⟨rb, 0, none⟩) 1 1 F .nil)
  nd : (Fo.s (some ⟨rb, 0, none⟩) 1 1 F .nil).inn.Nodup
  live : Live W (Fo.s (some ⟨rb, 0, none⟩) 1 1 F .nil).inn
  tc : tcK F ≤ 4000000

theorem RT.len {W : World} {rb : Nat} {F : Fo} (h : RT W rb F) : F.len = 7 := by have := Fit.len h.fit; rw [rep_len] at this; simpa [show (E 3).length = 7 from rfl] using this

/-- The world in which the walk begins. -/
structure WB (W V : World) (G wb fb M0 : Nat) : Prop where
  kp : Below W.heap.size W V
  sz : V.heap.size = W.heap.size + 5
  eG : G = W.heap.size + 2
  ew : wb = W.heap.size + 3
  ef : fb = W.heap.size + 4
  eM : M0 = W.heap.size + 1
  bg : Bx V G [.map none, .slice none 0 0, .slice none 0 0, .slice none 0 0, .map none, .slice none 0 0, .slice none 0 0, .slice none 0 0, .slice none 0 0, .slice (some ⟨W.heap.size, 0, none⟩) 1 1, .map (some M0)]
  bw : Bx V wb [.slice none 0 0]
  bf : Bx V fb [wfn wb]
  lm : LM V M0 [(0, 0)]
  bl : V.heap[W.heap.size]? = some (.cells #[.int .i64 0, .int .i64 0] 80)

theorem RT.start {W V : World} {rb : Nat} {F : Fo} {G wb fb M0 : Nat} (h : RT W rb F) (b : WB W V G wb fb M0) :
    ∃ O : Nat → Nat, O rb = 0 ∧ Offs O (.s (some ⟨rb, 0, none⟩) 1 1 F .nil) ∧ Fo.Sub V (SB V (W.heap.size + 5) G wb) (some ⟨rb, 0, none⟩) 1 1 F ∧
      GX O (fun j => V.cell? ⟨G, j, none⟩) V (SB V (W.heap.size + 5) G wb) (W.heap.size + 5) G wb fb V [] [] [] [] [] [] ((blk (some ⟨rb, 0, none⟩) F.len ++ F.inn) ++ []) (tcK F + 0) (tcK F) := by
  obtain ⟨O, ho⟩ := offs_ex h.sub h.nd
  have hl := h.len
  have eo : O rb = 0 := ho.1 (by omega) rb 0 rfl
  have hsb : ∀ c ∈ (Fo.s (some ⟨rb, 0, none⟩) 1 1 F .nil).inn, SB V (W.heap.size + 5) G wb c := fun c hc => by
    have h1 := h.sub.inn_of c hc
    obtain ⟨o, v, hv⟩ := inn_cell h.sub c hc
    have e1 := b.eG
    have e2 := b.ew
    refine ⟨LiveB.of (o := o) (v := v) (fun j => (b.kp.frozen (p := ⟨c, j, none⟩) h1).trans (h.live c hc j)) ((b.kp.cell (p := ⟨c, o, none⟩) h1).trans hv), ?_, ?_, ?_, ?_⟩
    · have := b.sz; omega
    · omega
    · omega
    · omega
  have hs : Fo.Subs V (SB V (W.heap.size + 5) G wb) (.s (some ⟨rb, 0, none⟩) 1 1 F .nil) := ((h.sub.own).below b.kp (fun c hc => h.sub.inn_of c hc)).mono hsb
  have e1 := b.eG
  have e2 := b.ew
  have e3 := b.ef
  refine ⟨O, eo, ho, hs.1, ⟨_, _, _, _, _, St.start (by have := b.sz; omega) (by omega) ⟨by omega, by omega⟩ ⟨by omega, by omega, by omega⟩ _ M0 b.bg b.bw b.bf⟩, ?_, Kept.refl _ _⟩
  exact GI.start h.nd

end Go.Proofs.Ytfgmgbkiebeeoaa

namespace Go.Proofs.Ytfgmgbkiebeeoaa.K
open Go.RowKit Go.Joins
variable {O : Nat → Nat}

set_option maxHeartbeats 4000000 in
set_option maxRecDepth 100000 in
/-- There are no things, but there is a map. -/
theorem i_settleE {lo G : Nat} {V : World} {M : Nat} {sv : Value} (h : GS O lo G V [] [] (.map (some M)) sv zf) (hc2 : ∃ v, V.cell? ⟨G, 2, none⟩ = some v) :
    Calls Try.prog 39 #[.pointer (some ⟨G, 0, none⟩)] V fun r V' => (∃ v, r = .returned v) ∧ SeP O lo G V [] (.map (some M)) sv V' := by
  obtain ⟨a, cap, rfl⟩ := h.slice0
  have c1 : V.cell? ⟨G, 1, none⟩ = some (.slice a 0 cap) := h.gs
  have c0 := h.gm
  have tf := h.gf 2
  have hlp : LP O lo G V [] (.map (some M)) (.slice a 0 cap) 0 V := ⟨by rw [fsI_zero]; exact h, Kept.refl _ _⟩
  obtain ⟨c, hr, hSL⟩ := SL.start (K := []) hlp h (by simp) hc2 0 rfl
  obtain ⟨v2, c2⟩ := hc2
  have hmk : (Instr.makeSlice 65 (.int .i64 0) (.int .i64 0)).run Try.prog V = .ok (.slice (some ⟨V.heap.size, 0, none⟩) 0 0) (V.alloc (.cells (madeCells #[.pointer none] 0) 87)) := run_makeP 0 (by omega) V
  obtain ⟨w1, hw1⟩ : ∃ w1, V.alloc (.cells (madeCells #[.pointer none] 0) 87) = w1 := ⟨_, rfl⟩
  rw [hw1] at hmk hr hSL
  have k1 : Kept (fun _ => True) V w1 := by rw [← hw1]; exact Kept.alloc _ _ _
  have hGw : G < V.heap.size := block_lt_of_cell c0
  have t21 : w1.cell? ⟨G, 2, none⟩ = some v2 := (k1.cell (p := ⟨G, 2, none⟩) hGw trivial).trans c2
  have tf1 : w1.frozen? ⟨G, 2, none⟩ = false := (k1.frozen (p := ⟨G, 2, none⟩) hGw trivial).trans tf
  have t01 : w1.cell? ⟨G, 0, none⟩ = some (.map (some M)) := (k1.cell (p := ⟨G, 0, none⟩) hGw trivial).trans c0
  obtain ⟨w2, hw2⟩ : ∃ w2, w1.setCell ⟨G, 2, none⟩ (.slice (some ⟨V.heap.size, 0, none⟩) 0 0) = w2 := ⟨_, rfl⟩
  rw [hw2] at hr hSL
  have t02 : w2.cell? ⟨G, 0, none⟩ = some (.map (some M)) := by
    rw [← hw2, World.cell?_setCell_other _ _ _ _ (fun x => (by decide : ¬ (2 : Nat) = 0) (congrArg Addr.off x))]
    exact t01
  obtain ⟨w3, hw3⟩ : ∃ w3, w2.alloc (.mapIter (some M) c #[] c) = w3 := ⟨_, rfl⟩
  rw [hw3] at hr hSL
  have hIM : V.heap.size + 1 ≠ M := by have := h.map.2.2; omega
  have hnx := hSL.i.next (P := Try.prog) hIM 0
  have hnx2 : (Instr.next (.pointer (some ⟨V.heap.size + 1, 0, none⟩)) false 0).run Try.prog w3 = .ok (.tuple #[.bool false]) w3 := by
    rcases hnx with ⟨-, h2⟩ | ⟨x, v, l, w', h2, -⟩
    · exact h2
    · simp [ents] at h2
  have HE := hide hSL.fin
  have HW2 := hide hw2
  obtain ⟨I, hI⟩ : ∃ I, V.heap.size + 1 = I := ⟨_, rfl⟩
  rw [hI] at hr hnx2
  clear h hlp hSL hnx k1 hw1 hw2 hw3 hGw tf c2 t01 hIM hI
  go_enter Try.func39, Try.ntmps39
  go_upto_region 2 with fail
  go_loopw [2, 3, 4, 11] (fun s2 _ _ s11 wr => s2 = .int .i64 0 ∧ s11 = .int .i64 0 ∧ wr = V) (fun _ _ _ _ _ => 0)
  case atStart => exact ⟨rfl, rfl, rfl⟩
  case round =>
    obtain ⟨rfl, rfl, rfl⟩ := hrel
    go_upto_region 10 with fail
    rw [HW2.out]
    go_upto_region 11 with fail
    go_loopw [5] (fun _ wx => wx = w3) (fun _ _ => 0)
    case atStart => rfl
    case round =>
      subst hrel
      go_wp2_with fail
      go_end0
      exact ⟨⟨_, rfl⟩, HE.out⟩

/-- Settle, whatever there is. -/
theorem i_settleX {lo G : Nat} {V : World} {K : List (Nat × Nat)} {mv sv : Value} (h : GS O lo G V K K mv sv zf) (hn : (K.map Prod.fst).Nodup) (hl : K.length ≤ 10000000) (hof : off K K.length ≤ 10000000) (hc2 : ∃ v, V.cell? ⟨G, 2, none⟩ = some v) :
    Calls Try.prog 39 #[.pointer (some ⟨G, 0, none⟩)] V fun r V' => (∃ v, r = .returned v) ∧ SeP O lo G V K mv sv V' := by
  by_cases h0 : 0 < K.length
  · rcases h.mp with ⟨h1, -⟩ | ⟨M, rfl, -⟩
    · rw [h1] at h0; simp at h0
    · exact i_settle h hn h0 hl hof hc2
  · have e : K = [] := List.length_eq_zero_iff.1 (by omega)
    subst e
    rcases h.mp with ⟨-, rfl⟩ | ⟨M, rfl, -⟩
    · exact i_settle0 h hc2
    · exact i_settleE h hc2

end Go.Proofs.Ytfgmgbkiebeeoaa.K

namespace Go.Proofs.Ytfgmgbkiebeeoaa.A
open Go.RowKit Go.Joins
variable {O : Nat → Nat}

set_option maxHeartbeats 4000000 in
set_option maxRecDepth 100000 in
/-- There are no things, but there is a map. -/
theorem i_settleE {lo G : Nat} {V : World} {M : Nat} {sv : Value} (h : GS O lo G V [] [] (.map (some M)) sv zf) (hc2 : ∃ v, V.cell? ⟨G, 6, none⟩ = some v) :
    Calls Try.prog 40 #[.pointer (some ⟨G, 4, none⟩)] V fun r V' => (∃ v, r = .returned v) ∧ SeP O lo G V [] (.map (some M)) sv V' := by
  obtain ⟨a, cap, rfl⟩ := h.slice0
  have c1 : V.cell? ⟨G, 5, none⟩ = some (.slice a 0 cap) := h.gs
  have c0 := h.gm
  have tf := h.gf 6
  have hlp : LP O lo G V [] (.map (some M)) (.slice a 0 cap) 0 V := ⟨by rw [fsI_zero]; exact h, Kept.refl _ _⟩
  obtain ⟨c, hr, hSL⟩ := SL.start (K := []) hlp h (by simp) hc2 0 rfl
  obtain ⟨v2, c2⟩ := hc2
  have hmk : (Instr.makeSlice 69 (.int .i64 0) (.int .i64 0)).run Try.prog V = .ok (.slice (some ⟨V.heap.size, 0, none⟩) 0 0) (V.alloc (.cells (madeCells #[.pointer none] 0) 100)) := run_makeP 0 (by omega) V
  obtain ⟨w1, hw1⟩ : ∃ w1, V.alloc (.cells (madeCells #[.pointer none] 0) 100) = w1 := ⟨_, rfl⟩
  rw [hw1] at hmk hr hSL
  have k1 : Kept (fun _ => True) V w1 := by rw [← hw1]; exact Kept.alloc _ _ _
  have hGw : G < V.heap.size := block_lt_of_cell c0
  have t21 : w1.cell? ⟨G, 6, none⟩ = some v2 := (k1.cell (p := ⟨G, 6, none⟩) hGw trivial).trans c2
  have tf1 : w1.frozen? ⟨G, 6, none⟩ = false := (k1.frozen (p := ⟨G, 6, none⟩) hGw trivial).trans tf
  have t01 : w1.cell? ⟨G, 4, none⟩ = some (.map (some M)) := (k1.cell (p := ⟨G, 4, none⟩) hGw trivial).trans c0
  obtain ⟨w2, hw2⟩ : ∃ w2, w1.setCell ⟨G, 6, none⟩ (.slice (some ⟨V.heap.size, 0, none⟩) 0 0) = w2 := ⟨_, rfl⟩
  rw [hw2] at hr hSL
  have t02 : w2.cell? ⟨G, 4, none⟩ = some (.map (some M)) := by
    rw [← hw2, World.cell?_setCell_other _ _ _ _ (fun x => (by decide : ¬ (6 : Nat) = 4) (congrArg Addr.off x))]
    exact t01
  obtain ⟨w3, hw3⟩ : ∃ w3, w2.alloc (.mapIter (some M) c #[] c) = w3 := ⟨_, rfl⟩
  rw [hw3] at hr hSL
  have hIM : V.heap.size + 1 ≠ M := by have := h.map.2.2; omega
  have hnx := hSL.i.next (P := Try.prog) hIM 0
  have hnx2 : (Instr.next (.pointer (some ⟨V.heap.size + 1, 0, none⟩)) false 0).run Try.prog w3 = .ok (.tuple #[.bool false]) w3 := by
    rcases hnx with ⟨-, h2⟩ | ⟨x, v, l, w', h2, -⟩
    · exact h2
    · simp [ents] at h2
  have HE := hide hSL.fin
  have HW2 := hide hw2
  obtain ⟨I, hI⟩ : ∃ I, V.heap.size + 1 = I := ⟨_, rfl⟩
  rw [hI] at hr hnx2
  clear h hlp hSL hnx k1 hw1 hw2 hw3 hGw tf c2 t01 hIM hI
  go_enter Try.func40, Try.ntmps40
  go_upto_region 2 with fail
  go_loopw [2, 3, 4, 11] (fun s2 _ _ s11 wr => s2 = .int .i64 0 ∧ s11 = .int .i64 0 ∧ wr = V) (fun _ _ _ _ _ => 0)
  case atStart => exact ⟨rfl, rfl, rfl⟩
  case round =>
    obtain ⟨rfl, rfl, rfl⟩ := hrel
    go_upto_region 10 with fail
    rw [HW2.out]
    go_upto_region 11 with fail
    go_loopw [5] (fun _ wx => wx = w3) (fun _ _ => 0)
    case atStart => rfl
    case round =>
      subst hrel
      go_wp2_with fail
      go_end0
      exact ⟨⟨_, rfl⟩, HE.out⟩

/-- Settle, whatever there is. -/
theorem i_settleX {lo G : Nat} {V : World} {K : List (Nat × Nat)} {mv sv : Value} (h : GS O lo G V K K mv sv zf) (hn : (K.map Prod.fst).Nodup) (hl : K.length ≤ 10000000) (hof : off K K.length ≤ 10000000) (hc2 : ∃ v, V.cell? ⟨G, 6, none⟩ = some v) :
    Calls Try.prog 40 #[.pointer (some ⟨G, 4, none⟩)] V fun r V' => (∃ v, r = .returned v) ∧ SeP O lo G V K mv sv V' := by
  by_cases h0 : 0 < K.length
  · rcases h.mp with ⟨h1, -⟩ | ⟨M, rfl, -⟩
    · rw [h1] at h0; simp at h0
    · exact i_settle h hn h0 hl hof hc2
  · have e : K = [] := List.length_eq_zero_iff.1 (by omega)
    subst e
    rcases h.mp with ⟨-, rfl⟩ | ⟨M, rfl, -⟩
    · exact i_settle0 h hc2
    · exact i_settleE h hc2

end Go.Proofs.Ytfgmgbkiebeeoaa.A

namespace Go.Proofs.Ytfgmgbkiebeeoaa
open Go.RowKit Go.Joins

theorem flat_at {α β : Type} (f : α → List β) : ∀ (L : List α) (k : Nat) (d : β), (L.flatMap f)[k]? = some d → ∃ (i : Nat) (x : α) (j : Nat), L[i]? = some x ∧ (f x)[j]? = some d ∧ k = ((L.take i).map (fun x => (f x).length)).sum + j
  | [], k, d, h => by simp at h
  | x :: L, k, d, h => by
    rw [List.flatMap_cons, List.getElem?_append] at h
    split at h
    · exact ⟨0, x, k, rfl, h, by simp⟩
    · rename_i hk
      obtain ⟨i, y, j, h1, h2, h3⟩ := flat_at f L _ d h
      refine ⟨i + 1, y, j, by simpa using h1, h2, ?_⟩
      simp only [List.take_succ_cons, List.map_cons, List.sum_cons]
      omega

theorem zip_at {α β : Type} : ∀ {A : List α} {B : List β} {i : Nat} {x : α × β}, (A.zip B)[i]? = some x → A[i]? = some x.1 ∧ B[i]? = some x.2 := by
  intro A B i x h
  have := List.getElem?_zip_eq_some.1 h
  exact this

theorem zip_get {α β : Type} {A : List α} {B : List β} {i : Nat} {a : α} {b : β} (h1 : A[i]? = some a) (h2 : B[i]? = some b) : (A.zip B)[i]? = some (a, b) := List.getElem?_zip_eq_some.2 ⟨h1, h2⟩

section
variable {O : Nat → Nat} {W : World} {S : Nat → Prop} {KK AA : List (Nat × Nat)} {KR AR : List Fo} {Qd X : List Nd} {R : List Nat} {c tot : Nat}

theorem sum_zip {α : Type} (g : (Nat × Nat) × α → Nat) : ∀ (A : List (Nat × Nat)) (B : List α) (i : Nat), B.length = A.length → (∀ (k : Nat) a b, A[k]? = some a → B[k]? = some b → g (a, b) = a.2) → (((A.zip B).take i).map g).sum = ((A.take i).map Prod.snd).sum
  | [], [], i, _, _ => by simp
  | [], _ :: _, _, h, _ => by simp at h
  | _ :: _, [], _, h, _ => by simp at h
  | a :: A, b :: B, 0, _, _ => by simp
  | a :: A, b :: B, i + 1, h, hg => by
    have ih := sum_zip g A B i (by simpa using h) (fun k a b h1 h2 => hg (k + 1) a b (by simpa using h1) (by simpa using h2))
    simp only [List.zip_cons_cons, List.take_succ_cons, List.map_cons, List.sum_cons, ih]
    rw [hg 0 a b rfl rfl]

theorem GI.lenK (h : GI O W S KK AA KR AR Qd X R c tot) {i : Nat} {e : Nat × Nat} {r : Fo} (h1 : KK[i]? = some e) (h2 : KR[i]? = some r) : (itK e.1 (O e.1) r).length = e.2 := by
  have := congrArg List.length (itK_pure O e.1 e.2 (O e.1) r (h.fk i e r h1 h2).1).1
  simpa using this
theorem GI.lenA (h : GI O W S KK AA KR AR Qd X R c tot) {i : Nat} {e : Nat × Nat} {r : Fo} (h1 : AA[i]? = some e) (h2 : AR[i]? = some r) : (itA e.1 (O e.1) r).length = e.2 := by
  have := congrArg List.length (itA_pure O e.1 e.2 (O e.1) r (h.fa i e r h1 h2).1).1
  simpa using this

/-- A term by its number. -/
theorem GI.atK (h : GI O W S KK AA KR AR Qd X R c tot) {k : Nat} {d : Nd} (hk : (ndK O KK KR)[k]? = some d) : ∃ (i : Nat) (e : Nat × Nat) (r : Fo) (j : Nat), KK[i]? = some e ∧ KR[i]? = some r ∧ j < e.2 ∧ k = K.off KK i + j ∧ (itK e.1 (O e.1) r)[j]? = some d ∧ d.pos = (e.1, O e.1 + j * 7) := by
  obtain ⟨i, ⟨e, r⟩, j, h1, h2, h3⟩ := flat_at _ _ k d hk
  obtain ⟨g1, g2⟩ := zip_at h1
  have hl : (itK e.1 (O e.1) r).length = e.2 := h.lenK g1 g2
  have hj : j < e.2 := by have := (List.getElem?_eq_some_iff.1 h2).1; dsimp only at this; omega
  have hp := congrArg (fun L => L[j]?) (itK_pure O e.1 e.2 (O e.1) r (h.fk i e r g1 g2).1).1
  simp only [List.getElem?_map, List.getElem?_range hj, Option.map_some] at hp
  have h2' : (itK e.1 (O e.1) r)[j]? = some d := h2
  rw [h2'] at hp
  refine ⟨i, e, r, j, g1, g2, hj, ?_, h2', by simpa using hp⟩
  rw [h3]
  congr 1
  exact sum_zip (fun x => (itK x.1.1 (O x.1.1) x.2).length) KK KR i h.lk (fun k a b e1 e2 => h.lenK e1 e2)

theorem GI.atA (h : GI O W S KK AA KR AR Qd X R c tot) {k : Nat} {d : Nd} (hk : (ndA O AA AR)[k]? = some d) : ∃ (i : Nat) (e : Nat × Nat) (r : Fo) (j : Nat), AA[i]? = some e ∧ AR[i]? = some r ∧ j < e.2 ∧ k = A.off AA i + j ∧ (itA e.1 (O e.1) r)[j]? = some d ∧ d.pos = (e.1, O e.1 + j * 9 + 2) := by
  obtain ⟨i, ⟨e, r⟩, j, h1, h2, h3⟩ := flat_at _ _ k d hk
  obtain ⟨g1, g2⟩ := zip_at h1
  have hl : (itA e.1 (O e.1) r).length = e.2 := h.lenA g1 g2
  have hj : j < e.2 := by have := (List.getElem?_eq_some_iff.1 h2).1; dsimp only at this; omega
  have hp := congrArg (fun L => L[j]?) (itA_pure O e.1 e.2 (O e.1) r (h.fa i e r g1 g2).1).1
  simp only [List.getElem?_map, List.getElem?_range hj, Option.map_some] at hp
  have h2' : (itA e.1 (O e.1) r)[j]? = some d := h2
  rw [h2'] at hp
  refine ⟨i, e, r, j, g1, g2, hj, ?_, h2', by simpa using hp⟩
  rw [h3]
  congr 1
  exact sum_zip (fun x => (itA x.1.1 (O x.1.1) x.2).length) AA AR i h.la (fun k a b e1 e2 => h.lenA e1 e2)

theorem flat_len {α β : Type} (f : α → List β) : ∀ L : List α, (L.flatMap f).length = (L.map (fun x => (f x).length)).sum
  | [] => rfl
  | x :: L => by simp [flat_len f L]

theorem GI.numK (h : GI O W S KK AA KR AR Qd X R c tot) : (ndK O KK KR).length = K.off KK KK.length := by
  unfold ndK K.off
  rw [flat_len]
  have := sum_zip (fun x => (itK x.1.1 (O x.1.1) x.2).length) KK KR KK.length h.lk (fun k a b e1 e2 => h.lenK e1 e2)
  rw [List.take_of_length_le (by rw [List.length_zip, h.lk]; simp)] at this
  exact this
theorem GI.numA (h : GI O W S KK AA KR AR Qd X R c tot) : (ndA O AA AR).length = A.off AA AA.length := by
  unfold ndA A.off
  rw [flat_len]
  have := sum_zip (fun x => (itA x.1.1 (O x.1.1) x.2).length) AA AR AA.length h.la (fun k a b e1 e2 => h.lenA e1 e2)
  rw [List.take_of_length_le (by rw [List.length_zip, h.la]; simp)] at this
  exact this

theorem GI.bdd (h : GI O W S KK AA KR AR Qd X R c tot) (ht : tot ≤ 4000000) : Bd KK AA := by
  have hb := h.bound
  rw [List.length_append, h.numK, h.numA] at hb
  have h1 := (List.nodup_append.1 h.nd).1
  obtain ⟨h2, h3, -⟩ := List.nodup_append.1 h1
  exact ⟨h2, h3, by omega, by omega, by omega, by omega⟩

/-- The blocks of lists. -/
theorem GI.sbK (h : GI O W S KK AA KR AR Qd X R c tot) : ∀ e ∈ KK, S e.1 := fun e he => by
  obtain ⟨i, hi⟩ := List.getElem?_of_mem he
  obtain ⟨r, hr⟩ : ∃ r, KR[i]? = some r := ⟨_, List.getElem?_eq_getElem (by rw [h.lk]; exact (List.getElem?_eq_some_iff.1 hi).1)⟩
  obtain ⟨f1, f2⟩ := h.fk i e r hi hr
  have hl := h.lenK hi hr
  obtain ⟨d, hd⟩ : ∃ d, (itK e.1 (O e.1) r)[0]? = some d := ⟨_, List.getElem?_eq_getElem (by omega)⟩
  have hm : d ∈ ndK O KK KR := List.mem_flatMap.2 ⟨(e, r), List.mem_of_getElem? (zip_get hi hr), List.mem_of_getElem? hd⟩
  have ho := (h.ok d (List.mem_append.2 (.inl hm))).1.at_
  have hp := congrArg (fun L => L[0]?) (itK_pure O e.1 e.2 (O e.1) r f1).1
  simp only [List.getElem?_map, hd, List.getElem?_range f2, Option.map_some, Nd.pos, Option.some.injEq, Prod.mk.injEq] at hp
  rw [← hp.1]
  exact ho
theorem GI.sbA (h : GI O W S KK AA KR AR Qd X R c tot) : ∀ e ∈ AA, S e.1 := fun e he => by
  obtain ⟨i, hi⟩ := List.getElem?_of_mem he
  obtain ⟨r, hr⟩ : ∃ r, AR[i]? = some r := ⟨_, List.getElem?_eq_getElem (by rw [h.la]; exact (List.getElem?_eq_some_iff.1 hi).1)⟩
  obtain ⟨f1, f2⟩ := h.fa i e r hi hr
  have hl := h.lenA hi hr
  obtain ⟨d, hd⟩ : ∃ d, (itA e.1 (O e.1) r)[0]? = some d := ⟨_, List.getElem?_eq_getElem (by omega)⟩
  have hm : d ∈ ndA O AA AR := List.mem_flatMap.2 ⟨(e, r), List.mem_of_getElem? (zip_get hi hr), List.mem_of_getElem? hd⟩
  have ho := (h.ok d (List.mem_append.2 (.inr hm))).1.at_
  have hp := congrArg (fun L => L[0]?) (itA_pure O e.1 e.2 (O e.1) r f1).1
  simp only [List.getElem?_map, hd, List.getElem?_range f2, Option.map_some, Nd.pos, Option.some.injEq, Prod.mk.injEq] at hp
  rw [← hp.1]
  exact ho
end

end Go.Proofs.Ytfgmgbkiebeeoaa

namespace Go.Proofs.Ytfgmgbkiebeeoaa
open Go.RowKit Go.Joins

/-- The kids are settled. -/
structure S1 (O : Nat → Nat) (A7 V1 : World) (lo G wb : Nat) (KK AA : List (Nat × Nat)) (mk sk ma sa : Value) (tk : Nat) : Prop where
  gk : K.GS O lo G V1 KK KK mk sk (K.fsI KK KK.length)
  tK : K.TI O V1 tk KK []
  c2 : V1.cell? ⟨G, 2, none⟩ = some (.slice (some ⟨tk, 0, none⟩) (K.off KK KK.length) (K.off KK KK.length))
  ga : A.GS O lo G V1 AA AA ma sa A.zf
  tk_ : lo ≤ tk ∧ ma ≠ .map (some tk) ∧ sa.ownBlock ≠ some tk
  dM : ∀ M, mk = .map (some M) → sa.ownBlock ≠ some M
  dS : ∀ b, sk.ownBlock = some b → sa.ownBlock ≠ some b
  rg : ∀ j, j ≠ 0 → j ≠ 1 → j ≠ 4 → j ≠ 5 → j ≠ 2 → V1.cell? ⟨G, j, none⟩ = A7.cell? ⟨G, j, none⟩
  kp : Kept (fun d => d < lo ∧ d ≠ G ∧ d ≠ wb) A7 V1

theorem settle1 {O : Nat → Nat} {A7 V : World} {lo G wb fb : Nat} {KK AA : List (Nat × Nat)} {KR AR : List Fo} {tot : Nat} (h : GX O (fun j => A7.cell? ⟨G, j, none⟩) A7 (SB A7 lo G wb) lo G wb fb V KK AA KR AR [] [] [] 0 tot) (ht : tot ≤ 4000000) (h2 : ∃ v, A7.cell? ⟨G, 2, none⟩ = some v) :
    Calls Try.prog 39 #[.pointer (some ⟨G, 0, none⟩)] V fun r V1 => (∃ v, r = .returned v) ∧ ∃ mk sk ma sa tk, S1 O A7 V1 lo G wb KK AA mk sk ma sa tk := by
  obtain ⟨⟨mk, sk, ma, sa, wv, st⟩, gi, hk⟩ := h
  have bd := gi.bdd ht
  obtain ⟨v2, hv2⟩ := h2
  have c2 : V.cell? ⟨G, 2, none⟩ = some v2 := (st.rg 2 (by decide) (by decide) (by decide) (by decide)).trans hv2
  obtain ⟨a1, a2, a3⟩ := st.apart
  have hmlt : ∀ d, ma = .map (some d) → d < V.heap.size := fun d e => by
    rcases st.a.mp with ⟨-, h1⟩ | ⟨M, h1, h2, -⟩
    · rw [e] at h1; cases h1
    · rw [e] at h1; cases h1; exact h2.lt
  have hslt : ∀ d, sa.ownBlock = some d → d < V.heap.size := fun d e => (World.ownsRow.lt st.a.ow d e).2
  have hG := st.k.hg
  have hv := st.k.hv
  refine (K.i_settleX st.k bd.nk bd.lk (by have := bd.ok; omega) ⟨v2, c2⟩).mono ?_
  rintro r V1 ⟨hr, tk, g1, g2, g3, g4, g5, g6⟩
  have lw : ∀ d, d < lo → d ≠ G → d ≠ G ∧ sk.ownBlock ≠ some d := fun d hd hG' => ⟨hG', fun e => by have := ownsRow_blk st.k.ow d e; omega⟩
  have ga : A.GS O lo G V1 AA AA ma sa A.zf := st.a.frame g5 (fun e he => lw e.1 (st.a.lv e he).2.1 (st.a.lv e he).2.2) (fun d hd => by
    rcases hd with e | e
    · exact ⟨by have := (a3 d e).2.2; omega, (a3 d e).1⟩
    · exact ⟨by have := ownsRow_blk st.a.ow d e; omega, fun e2 => st.dS d e2 e⟩) ((g6 4 (by decide)).trans st.a.gm) ((g6 5 (by decide)).trans st.a.gs) g1.gf
  refine ⟨hr, mk, sk, ma, sa, tk, g1, g2, g3, ga, ⟨by omega, fun e => by have := hmlt tk e; omega, fun e => by have := hslt tk e; omega⟩, fun M e => (a2 M e).2.1, st.dS, fun j b0 b1 b4 b5 b2 => (g6 j b2).trans (st.rg j b0 b1 b4 b5), hk.trans (g5.mono (fun d _ hd => lw d hd.1 hd.2.1))⟩

theorem settle2 {O : Nat → Nat} {W A7 V1 : World} {G wb fb M0 : Nat} {KK AA : List (Nat × Nat)} {KR AR : List Fo} {Qd X : List Nd} {R : List Nat} {c tot : Nat} {mk sk ma sa : Value} {tk : Nat} (hB : WB W A7 G wb fb M0) (gi : GI O A7 (SB A7 (W.heap.size + 5) G wb) KK AA KR AR Qd X R c tot) (ht : tot ≤ 4000000) (h : S1 O A7 V1 (W.heap.size + 5) G wb KK AA mk sk ma sa tk) :
    Calls Try.prog 40 #[.pointer (some ⟨G, 4, none⟩)] V1 fun r V2 => (∃ v, r = .returned v) ∧ ∃ ta, PN O V2 W.heap.size (W.heap.size + 5) G KK AA mk sk ma sa tk ta [(0, 0)] (.slice (some ⟨W.heap.size, 0, none⟩) 1 1) M0 (.slice none 0 0) 0 [] ∧ Kept (fun d => d < W.heap.size + 5 ∧ d ≠ G ∧ d ≠ wb) A7 V2 := by
  have bd := gi.bdd ht
  have e1 := hB.eG
  have e2 := hB.ew
  have e3 := hB.eM
  have c6 : V1.cell? ⟨G, 6, none⟩ = some (.slice none 0 0) := (h.rg 6 (by decide) (by decide) (by decide) (by decide) (by decide)).trans (hB.bg.cel 6 _ rfl)
  have hv := h.gk.hv
  have hG := h.gk.hg
  refine (A.i_settleX h.ga bd.na bd.la (by have := bd.oa; omega) ⟨_, c6⟩).mono ?_
  rintro r V2 ⟨hr, ta, g1, g2, g3, g4, g5, g6⟩
  have lw : ∀ d, d < W.heap.size + 5 → d ≠ G → d ≠ G ∧ sa.ownBlock ≠ some d := fun d hd hG' => ⟨hG', fun e => by have := ownsRow_blk h.ga.ow d e; omega⟩
  have mlo : ∀ d, mk = .map (some d) → W.heap.size + 5 ≤ d ∧ d < V1.heap.size := fun d e => by
    rcases h.gk.mp with ⟨-, h1⟩ | ⟨M, h1, h2, h3⟩
    · rw [e] at h1; cases h1
    · rw [e] at h1; cases h1; exact ⟨h3, h2.lt⟩
  have malo : ∀ d, ma = .map (some d) → W.heap.size + 5 ≤ d ∧ d < V1.heap.size := fun d e => by
    rcases h.ga.mp with ⟨-, h1⟩ | ⟨M, h1, h2, h3⟩
    · rw [e] at h1; cases h1
    · rw [e] at h1; cases h1; exact ⟨h3, h2.lt⟩
  have slo : ∀ d, sk.ownBlock = some d → W.heap.size + 5 ≤ d ∧ d < V1.heap.size := fun d e => ⟨ownsRow_blk h.gk.ow d e, (World.ownsRow.lt h.gk.ow d e).2⟩
  have salo : ∀ d, sa.ownBlock = some d → W.heap.size + 5 ≤ d ∧ d < V1.heap.size := fun d e => ⟨ownsRow_blk h.ga.ow d e, (World.ownsRow.lt h.ga.ow d e).2⟩
  have kk : Kept (fun d => d < W.heap.size + 5 ∧ d ≠ G ∧ d ≠ wb) A7 V2 := h.kp.trans (g5.mono (fun d _ hd => lw d hd.1 hd.2.1))
  have gk2 : K.GS O (W.heap.size + 5) G V2 KK KK mk sk (K.fsI KK KK.length) := h.gk.frame g5 (fun e he => lw e.1 (h.gk.lv e he).2.1 (h.gk.lv e he).2.2) (fun d hd => by
    rcases hd with e | e
    · exact ⟨by have := (mlo d e).1; omega, h.dM d e⟩
    · exact ⟨by have := (slo d e).1; omega, h.dS d e⟩) ((g6 0 (by decide)).trans h.gk.gm) ((g6 1 (by decide)).trans h.gk.gs) g1.gf
  have htk := h.tK.lt
  have tK2 : K.TI O V2 tk KK [] := h.tK.kept g5 ⟨by have := h.tk_.1; omega, h.tk_.2.2⟩
  have rg2 : ∀ j, j ≠ 0 → j ≠ 1 → j ≠ 4 → j ≠ 5 → j ≠ 2 → j ≠ 6 → V2.cell? ⟨G, j, none⟩ = A7.cell? ⟨G, j, none⟩ := fun j b0 b1 b4 b5 b2 b6 => (g6 j b6).trans (h.rg j b0 b1 b4 b5 b2)
  have hz := hB.sz
  have fbl : ∀ q, FB KK AA mk sk ma sa tk ta q → q < V2.heap.size ∧ q ≠ G ∧ q ≠ W.heap.size ∧ q ≠ M0 := fun q hq => by
    have s2 := g5.size
    rcases hq with (e | e) | (e | e) | e | e | ⟨e, he, e'⟩ | ⟨e, he, e'⟩
    · have := mlo q e; omega
    · have := slo q e; omega
    · have := malo q e; omega
    · have := salo q e; omega
    · have := h.tk_.1; omega
    · have := g2.lt; omega
    · have := gi.sbK e he
      have h5 := this.2.2.1
      have h6 := this.2.2.2.1
      omega
    · have := gi.sbA e he
      have h5 := this.2.2.1
      have h6 := this.2.2.2.1
      omega
  have bl2 : V2.heap[W.heap.size]? = some (.cells #[.int .i64 0, .int .i64 0] 80) := (kk.block _ (by omega) ⟨by omega, by omega, by omega⟩).trans hB.bl
  have lnn : LN V2 W.heap.size G [(0, 0)] (.slice (some ⟨W.heap.size, 0, none⟩) 1 1) M0 := by
    refine ⟨(rg2 9 (by decide) (by decide) (by decide) (by decide) (by decide) (by decide)).trans (hB.bg.cel 9 _ rfl), g1.gf 9, ⟨rfl, .inr ⟨W.heap.size, 1, _, rfl, Nat.le_refl _, bl2, Nat.le_refl _, by decide, rfl, rfl⟩⟩, (rg2 10 (by decide) (by decide) (by decide) (by decide) (by decide) (by decide)).trans (hB.bg.cel 10 _ rfl), hB.lm.kept kk ⟨by omega, by omega, by omega⟩, by simp, ⟨fun e => ?_, fun e => ?_, by omega⟩, ?_⟩
    · have : W.heap.size = G := Option.some.inj e
      omega
    · have : W.heap.size = M0 := Option.some.inj e
      omega
    · have := kk.size
      omega
  refine ⟨hr, ta, ⟨⟨gk2, g1, tK2, g2, (g6 2 (by decide)).trans h.c2, g3, lnn, fun q hq => ?_, fun q hq => (fbl q hq).1⟩, rfl, (rg2 8 (by decide) (by decide) (by decide) (by decide) (by decide) (by decide)).trans (hB.bg.cel 8 _ rfl), g1.gf 8, World.ownsRow_nil _ _ _ _, fun q e => by cases e⟩, kk⟩
  obtain ⟨f1, f2, f3, f4⟩ := fbl q hq
  exact ⟨f2, fun e => f3 (Option.some.inj e).symm, f4⟩

end Go.Proofs.Ytfgmgbkiebeeoaa

namespace Go.Proofs.Ytfgmgbkiebeeoaa
open Go.RowKit Go.Joins

/-- The cells of nodes. -/
def ncs : List Nd → List (Nat × Nat) → List Value
  | d :: ds, p :: ps => kp d.pos :: .int .i64 (p.1 : Int) :: .int .i64 (p.2 : Int) :: ncs ds ps
  | _, _ => []

theorem ncs_app (d : Nd) (p : Nat × Nat) : ∀ (ds : List Nd) (ps : List (Nat × Nat)), ds.length = ps.length → ncs (ds ++ [d]) (ps ++ [p]) = ncs ds ps ++ [kp d.pos, .int .i64 (p.1 : Int), .int .i64 (p.2 : Int)]
  | [], [], _ => rfl
  | [], _ :: _, h => by simp at h
  | _ :: _, [], h => by simp at h
  | e :: ds, q :: ps, h => by
    simp only [List.cons_append, ncs]
    rw [ncs_app d p ds ps (by simpa using h)]

theorem ncs_at : ∀ (ds : List Nd) (ps : List (Nat × Nat)) (i : Nat) (d : Nd) (p : Nat × Nat), ds[i]? = some d → ps[i]? = some p → (ncs ds ps)[i * 3 + 1]? = some (.int .i64 (p.1 : Int)) ∧ (ncs ds ps)[i * 3 + 1 + 1]? = some (.int .i64 (p.2 : Int))
  | [], _, _, _, _, h, _ => by simp at h
  | _ :: _, [], _, _, _, _, h => by simp at h
  | e :: ds, q :: ps, 0, d, p, h1, h2 => by
    have e2 : q = p := by simpa using h2
    subst e2
    exact ⟨rfl, rfl⟩
  | e :: ds, q :: ps, i + 1, d, p, h1, h2 => by
    obtain ⟨g1, g2⟩ := ncs_at ds ps i d p (by simpa using h1) (by simpa using h2)
    rw [show (i + 1) * 3 + 1 = i * 3 + 1 + 1 + 1 + 1 from by omega]
    exact ⟨by simpa [ncs] using g1, by simpa [ncs] using g2⟩

/-- What a list of the ground may be. -/
def LSo (KK AA : List (Nat × Nat)) (x : Nat × Nat) : Prop := x = (0, 0) ∨ (∃ k b n : Nat, KK[k]? = some (b, n) ∧ x = (K.off KK k, n)) ∨ ∃ k b n : Nat, AA[k]? = some (b, n) ∧ x = (K.off KK KK.length + A.off AA k, n)

theorem KX.lso {O : Nat → Nat} {KK AA : List (Nat × Nat)} {a : Option Addr} {n : Nat} {x : Nat × Nat} (h : KX O KK a n x) : LSo KK AA x := by
  rcases h with ⟨-, h⟩ | ⟨k, b, -, h1, -, h2⟩
  · exact .inl h
  · exact .inr (.inl ⟨k, b, n, h1, h2⟩)
theorem AX.lso {O : Nat → Nat} {KK AA : List (Nat × Nat)} {a : Option Addr} {n : Nat} {x : Nat × Nat} (h : AX O KK AA a n x) : LSo KK AA x := by
  rcases h with ⟨-, h⟩ | ⟨k, b, -, h1, -, h2⟩
  · exact .inl h
  · exact .inr (.inr ⟨k, b, n, h1, h2⟩)

/-- k nodes are there. -/
structure NP (O : Nat → Nat) (W w : World) (lo G M0 : Nat) (KK AA : List (Nat × Nat)) (mk sk ma sa : Value) (tk ta : Nat) (ND : List Nd) (k : Nat) (LS : List (Nat × Nat)) (lv nv : Value) (PQ : List (Nat × Nat)) : Prop where
  pn : PN O w W.heap.size lo G KK AA mk sk ma sa tk ta LS lv M0 nv k (ncs (ND.take k) PQ)
  le : k ≤ ND.length
  pq : PQ.length = k
  rel : ∀ (i : Nat) d p, ND[i]? = some d → PQ[i]? = some p → ∃ x y, LS[p.1]? = some x ∧ KX O KK (kA d.x) (kN d.x) x ∧ LS[p.2]? = some y ∧ AX O KK AA (aA d.x) (aN d.x) y
  so : ∀ x ∈ LS, LSo KK AA x
  ll : LS.length ≤ 2 * k + 3
  be : Below W.heap.size W w
  hg : W.heap.size ≤ G ∧ W.heap.size ≤ M0

theorem get_app {α : Type} {L M : List α} {i : Nat} {x : α} (h : L[i]? = some x) : (L ++ M)[i]? = some x := by
  rw [List.getElem?_append_left (List.getElem?_eq_some_iff.1 h).1]
  exact h

/-- One node more. -/
theorem NP.step {O : Nat → Nat} {W w : World} {lo G M0 : Nat} {KK AA : List (Nat × Nat)} {KR AR : List Fo} {mk sk ma sa : Value} {tk ta : Nat} {ND : List Nd} {k : Nat} {LS : List (Nat × Nat)} {lv nv : Value} {PQ : List (Nat × Nat)} (h : NP O W w lo G M0 KK AA mk sk ma sa tk ta ND k LS lv nv PQ) (hb : Bd KK AA) (hn : ND.length ≤ 4000000) {d : Nd} (hd : ND[k]? = some d) (hx : ∃ kc ac, W.cell? ⟨d.b, d.o + 5, none⟩ = some (.slice (kA d.x) (kN d.x) kc) ∧ W.cell? ⟨d.b, d.o + 6, none⟩ = some (.slice (aA d.x) (aN d.x) ac)) (hdn : Done O KK KR AA AR d.x) (hfb : FB KK AA mk sk ma sa tk ta d.b) :
    Calls Try.prog 41 #[.pointer (some ⟨G, 0, none⟩), .pointer (some ⟨d.b, d.o, none⟩)] w fun e w' => (∃ v, e = .returned v) ∧ ∃ LS' lv' nv' PQ', NP O W w' lo G M0 KK AA mk sk ma sa tk ta ND (k + 1) LS' lv' nv' PQ' ∧ ∃ L2, LS' = LS ++ L2 := by
  obtain ⟨kc, ac, x5, x6⟩ := hx
  have hbl : d.b < W.heap.size := block_lt_of_cell x5
  have hkl : k < ND.length := (List.getElem?_eq_some_iff.1 hd).1
  have hll := h.ll
  have hk : kN d.x = 0 ∨ ∃ k b : Nat, kA d.x = some ⟨b, O b, none⟩ ∧ KK[k]? = some (b, kN d.x) ∧ 0 < kN d.x := by
    by_cases h0 : 0 < kN d.x
    · obtain ⟨i, b, h1, h2, -⟩ := hdn.k h0
      exact .inr ⟨i, b, h1, h2, h0⟩
    · exact .inl (by omega)
  have ha : aN d.x = 0 ∨ ∃ k b : Nat, aA d.x = some ⟨b, O b, none⟩ ∧ AA[k]? = some (b, aN d.x) ∧ 0 < aN d.x := by
    by_cases h0 : 0 < aN d.x
    · obtain ⟨i, b, h1, h2, -⟩ := hdn.a h0
      exact .inr ⟨i, b, h1, h2, h0⟩
    · exact .inl (by omega)
  refine (i_node h.pn hb ((h.be.cell (p := ⟨d.b, d.o + 5, none⟩) hbl).trans x5) ((h.be.cell (p := ⟨d.b, d.o + 6, none⟩) hbl).trans x6) hfb hk ha (by omega) (by omega)).mono ?_
  rintro e w' ⟨hv, i, j, L2, lv', nv', x, y, g1, g2, g3, g4, g5, g6, g7, g8⟩
  have htk : ND.take (k + 1) = ND.take k ++ [d] := by rw [List.take_add_one, hd]; rfl
  have hpl : (ND.take k).length = PQ.length := by rw [List.length_take, h.pq]; omega
  refine ⟨hv, _, lv', nv', PQ ++ [(i, j)], ⟨?_, by omega, by simp [h.pq], fun q dq p hq hp => ?_, fun z hz => ?_, by rw [List.length_append]; omega, ?_, h.hg⟩, L2, rfl⟩
  · rw [htk, ncs_app d (i, j) _ _ hpl]
    exact g1
  · rw [List.getElem?_append] at hp
    split at hp
    · obtain ⟨x', y', r1, r2, r3, r4⟩ := h.rel q dq p hq hp
      exact ⟨x', y', get_app r1, r2, get_app r3, r4⟩
    · rename_i hq2
      obtain ⟨t, ht⟩ : ∃ t, t = q - PQ.length := ⟨_, rfl⟩
      rw [← ht] at hp
      cases t with
      | zero =>
        have e1 : (i, j) = p := by simpa using hp
        have e2 : q = k := by have := h.pq; omega
        rw [e2, hd] at hq
        have e3 : d = dq := Option.some.inj hq
        subst e3
        subst e1
        exact ⟨x, y, g2, g3, g4, g5⟩
      | succ t => simp at hp
  · rcases List.mem_append.1 hz with e | e
    · exact h.so z e
    · rcases g7 z e with e2 | e2
      · rw [e2]; exact g3.lso
      · rw [e2]; exact g5.lso
  · refine Below.kept h.be g8 (fun c hc => ?_) (Nat.le_refl _)
    have h1 := h.hg
    exact ⟨by omega, by omega, fun e => by have := (World.ownsRow.lt h.pn.z.ln.ow c e).1; omega, fun e => by have := (World.ownsRow.lt h.pn.ow c e).1; omega⟩

end Go.Proofs.Ytfgmgbkiebeeoaa

namespace Go.Proofs.Ytfgmgbkiebeeoaa
open Go.RowKit Go.Joins

/-- What is known of a term on the ground. -/
theorem GI.node {O : Nat → Nat} {W A7 : World} {lo G wb : Nat} {KK AA : List (Nat × Nat)} {KR AR : List Fo} {R : List Nat} {c tot : Nat} (h : GI O A7 (SB A7 lo G wb) KK AA KR AR [] [] R c tot) (hk : Below W.heap.size W A7) (hlo : lo = W.heap.size + 5) {d : Nd} (hd : d ∈ ndK O KK KR ++ ndA O AA AR) :
    (∃ kc ac, W.cell? ⟨d.b, d.o + 5, none⟩ = some (.slice (kA d.x) (kN d.x) kc) ∧ W.cell? ⟨d.b, d.o + 6, none⟩ = some (.slice (aA d.x) (aN d.x) ac)) ∧ Done O KK KR AA AR d.x ∧ ((∃ e ∈ KK, e.1 = d.b) ∨ ∃ e ∈ AA, e.1 = d.b) := by
  obtain ⟨o1, o2⟩ := h.ok d hd
  have hb : d.b < W.heap.size := by have := o1.at_.2.2.1; omega
  have hdn : Done O KK KR AA AR d.x := by
    rcases h.pd d hd with e | e | e
    · cases e
    · cases e
    · exact e
  refine ⟨?_, hdn, ?_⟩
  · obtain ⟨k, nm, mn, la, ln, lc, lk, na, nn, nc, nk, ka, kn, kc, kk, aa, an, ac, ak, hx, -⟩ := core_open o1.fit
    have hc := o1.cel
    rw [hx] at hc ⊢
    exact ⟨kc, ac, (hk.cell (p := ⟨d.b, d.o + 5, none⟩) hb).symm.trans (hc 5 _ rfl), (hk.cell (p := ⟨d.b, d.o + 6, none⟩) hb).symm.trans (hc 6 _ rfl)⟩
  · rcases List.mem_append.1 hd with e | e
    · obtain ⟨k, hk⟩ := List.getElem?_of_mem e
      obtain ⟨i, e, r, j, h1, -, -, -, -, h5⟩ := h.atK hk
      exact .inl ⟨e, List.mem_of_getElem? h1, (congrArg Prod.fst h5).symm⟩
    · obtain ⟨k, hk⟩ := List.getElem?_of_mem e
      obtain ⟨i, e, r, j, h1, -, -, -, -, h5⟩ := h.atA hk
      exact .inr ⟨e, List.mem_of_getElem? h1, (congrArg Prod.fst h5).symm⟩

/-- The ground as it is answered. -/
def GE (W W' : World) (rb : Nat) (F : Fo) (G : Nat) : Prop :=
  ∃ (O : Nat → Nat) (A7 : World) (lo wb M0 : Nat) (KK AA : List (Nat × Nat)) (KR AR : List Fo) (mk sk ma sa : Value) (tk ta : Nat) (LS : List (Nat × Nat)) (lv nv : Value) (PQ : List (Nat × Nat)),
    GI O A7 (SB A7 lo G wb) KK AA KR AR [] [] [] 0 (tcK F) ∧ NP O W W' lo G M0 KK AA mk sk ma sa tk ta (ndK O KK KR ++ ndA O AA AR) (ndK O KK KR ++ ndA O AA AR).length LS lv nv PQ ∧ (∃ i : Nat, KK[i]? = some (rb, 1) ∧ KR[i]? = some F) ∧ (∃ (i : Nat) (x : Nat × Nat), LS[i]? = some x ∧ KX O KK (some ⟨rb, 0, none⟩) 1 x) ∧ O rb = 0

/-- The roots are numbered. -/
theorem NP.start {O : Nat → Nat} {W A7 V2 V3 : World} {G wb fb M0 : Nat} {KK AA : List (Nat × Nat)} {mk sk ma sa : Value} {tk ta : Nat} {ND : List Nd} {a : Option Addr} {m : Nat} {x : Nat × Nat} {i : Nat} {L2 : List (Nat × Nat)} {lv' : Value} (hB : WB W A7 G wb fb M0) (h : PN O V2 W.heap.size (W.heap.size + 5) G KK AA mk sk ma sa tk ta [(0, 0)] (.slice (some ⟨W.heap.size, 0, none⟩) 1 1) M0 (.slice none 0 0) 0 []) (k : Kept (fun d => d < W.heap.size + 5 ∧ d ≠ G ∧ d ≠ wb) A7 V2) (q : LQ V2 V3 W.heap.size G [(0, 0)] (.slice (some ⟨W.heap.size, 0, none⟩) 1 1) M0 x i L2 lv') (kx : KX O KK a m x) :
    NP O W V3 (W.heap.size + 5) G M0 KK AA mk sk ma sa tk ta ND 0 ([(0, 0)] ++ L2) lv' (.slice none 0 0) [] ∧ ∃ (i : Nat) (x : Nat × Nat), ([(0, 0)] ++ L2)[i]? = some x ∧ KX O KK a m x := by
  have e1 := hB.eG
  have e2 := hB.ew
  have e3 := hB.eM
  refine ⟨⟨by simpa [ncs] using h.list q, Nat.zero_le _, rfl, fun i d p _ hp => by simp at hp, fun z hz => ?_, ?_, ?_, ⟨by omega, by omega⟩⟩, i, x, q.at_, kx⟩
  · rcases List.mem_append.1 hz with e | e
    · rw [List.mem_singleton] at e
      exact .inl e
    · rcases q.new with e2 | e2
      · rw [e2] at e; cases e
      · rw [e2, List.mem_singleton] at e
        rw [e]
        exact kx.lso
  · have : L2.length ≤ 1 := by rcases q.new with e | e <;> simp [e]
    simp
    omega
  · have b2 : Below W.heap.size W V2 := Below.kept hB.kp k (fun c hc => ⟨by omega, by omega, by omega⟩) (Nat.le_refl _)
    exact Below.kept b2 q.kept (fun c hc => ⟨by omega, fun e => by have : W.heap.size = c := Option.some.inj e; omega, by omega⟩) (Nat.le_refl _)

end Go.Proofs.Ytfgmgbkiebeeoaa

namespace Go.Proofs.Ytfgmgbkiebeeoaa
open Go.RowKit Go.Joins

/-- k nodes are there, and the roots have a number. -/
def NQ (O : Nat → Nat) (W : World) (lo G M0 : Nat) (KK AA : List (Nat × Nat)) (mk sk ma sa : Value) (tk ta : Nat) (ND : List Nd) (rb k : Nat) (w : World) : Prop :=
  ∃ LS lv nv PQ, NP O W w lo G M0 KK AA mk sk ma sa tk ta ND k LS lv nv PQ ∧ ∃ (i : Nat) (x : Nat × Nat), LS[i]? = some x ∧ KX O KK (some ⟨rb, 0, none⟩) 1 x

section
variable {O : Nat → Nat} {W A7 w : World} {lo G wb M0 : Nat} {KK AA : List (Nat × Nat)} {KR AR : List Fo} {mk sk ma sa : Value} {tk ta rb k tot : Nat}

theorem NQ.next (h : NQ O W lo G M0 KK AA mk sk ma sa tk ta (ndK O KK KR ++ ndA O AA AR) rb k w) (gi : GI O A7 (SB A7 lo G wb) KK AA KR AR [] [] [] 0 tot) (hk : Below W.heap.size W A7) (hlo : lo = W.heap.size + 5) (ht : tot ≤ 4000000) {d : Nd} (hd : (ndK O KK KR ++ ndA O AA AR)[k]? = some d) :
    Calls Try.prog 41 #[.pointer (some ⟨G, 0, none⟩), .pointer (some ⟨d.b, d.o, none⟩)] w fun e w' => (∃ v, e = .returned v) ∧ NQ O W lo G M0 KK AA mk sk ma sa tk ta (ndK O KK KR ++ ndA O AA AR) rb (k + 1) w' := by
  obtain ⟨LS, lv, nv, PQ, np, i, x, h1, h2⟩ := h
  obtain ⟨n1, n2, n3⟩ := gi.node hk hlo (List.mem_of_getElem? hd)
  refine (np.step (gi.bdd ht) (by have := gi.bound.1; omega) hd n1 n2 (n3.elim (fun e => .inr (.inr (.inr (.inr (.inl e))))) (fun e => .inr (.inr (.inr (.inr (.inr e))))))).mono ?_
  rintro e w' ⟨hv, LS', lv', nv', PQ', g1, L2, rfl⟩
  exact ⟨hv, _, lv', nv', PQ', g1, i, x, get_app h1, h2⟩

theorem NQ.kid (h : NQ O W lo G M0 KK AA mk sk ma sa tk ta (ndK O KK KR ++ ndA O AA AR) rb k w) (gi : GI O A7 (SB A7 lo G wb) KK AA KR AR [] [] [] 0 tot) (hk : Below W.heap.size W A7) (hlo : lo = W.heap.size + 5) (ht : tot ≤ 4000000) (hl : k < K.off KK KK.length) :
    ∃ b o, w.cell? ⟨tk, k, none⟩ = some (.pointer (some ⟨b, o, none⟩)) ∧ Calls Try.prog 41 #[.pointer (some ⟨G, 0, none⟩), .pointer (some ⟨b, o, none⟩)] w fun e w' => (∃ v, e = .returned v) ∧ NQ O W lo G M0 KK AA mk sk ma sa tk ta (ndK O KK KR ++ ndA O AA AR) rb (k + 1) w' := by
  obtain ⟨d, hd⟩ : ∃ d, (ndK O KK KR)[k]? = some d := ⟨_, List.getElem?_eq_getElem (by rw [gi.numK]; exact hl)⟩
  obtain ⟨i, e, r, j, h1, h2, h3, h4, h5, h6⟩ := gi.atK hd
  obtain ⟨LS, lv, nv, PQ, np, hr⟩ := id h
  refine ⟨d.b, d.o, ?_, h.next gi hk hlo ht (get_app hd)⟩
  rcases np.pn.z.tK.full i e j h1 h3 with e1 | e1
  · cases e1
  · rw [← h4, ← h6] at e1
    exact e1

theorem NQ.alt (h : NQ O W lo G M0 KK AA mk sk ma sa tk ta (ndK O KK KR ++ ndA O AA AR) rb (K.off KK KK.length + k) w) (gi : GI O A7 (SB A7 lo G wb) KK AA KR AR [] [] [] 0 tot) (hk : Below W.heap.size W A7) (hlo : lo = W.heap.size + 5) (ht : tot ≤ 4000000) (hl : k < A.off AA AA.length) :
    ∃ b o, w.cell? ⟨ta, k, none⟩ = some (.pointer (some ⟨b, o, none⟩)) ∧ Calls Try.prog 41 #[.pointer (some ⟨G, 0, none⟩), .pointer (some ⟨b, o + 2, none⟩)] w fun e w' => (∃ v, e = .returned v) ∧ NQ O W lo G M0 KK AA mk sk ma sa tk ta (ndK O KK KR ++ ndA O AA AR) rb (K.off KK KK.length + (k + 1)) w' := by
  obtain ⟨d, hd⟩ : ∃ d, (ndA O AA AR)[k]? = some d := ⟨_, List.getElem?_eq_getElem (by rw [gi.numA]; exact hl)⟩
  obtain ⟨i, e, r, j, h1, h2, h3, h4, h5, h6⟩ := gi.atA hd
  obtain ⟨LS, lv, nv, PQ, np, hr⟩ := id h
  have hdd : (ndK O KK KR ++ ndA O AA AR)[K.off KK KK.length + k]? = some d := by
    rw [← gi.numK, List.getElem?_append_right (by omega), Nat.add_sub_cancel_left]
    exact hd
  have hc := h.next gi hk hlo ht hdd
  have e2 : d.b = e.1 ∧ d.o = O e.1 + j * 9 + 2 := ⟨congrArg Prod.fst h6, congrArg Prod.snd h6⟩
  refine ⟨e.1, O e.1 + j * 9, ?_, ?_⟩
  · rcases np.pn.z.tA.full i e j h1 h3 with e1 | e1
    · cases e1
    · rw [← h4] at e1
      exact e1
  · rw [← e2.2, ← e2.1]
    exact hc

theorem NQ.c2 (h : NQ O W lo G M0 KK AA mk sk ma sa tk ta (ndK O KK KR ++ ndA O AA AR) rb k w) : w.cell? ⟨G, 2, none⟩ = some (.slice (some ⟨tk, 0, none⟩) (K.off KK KK.length) (K.off KK KK.length)) ∧ w.cell? ⟨G, 6, none⟩ = some (.slice (some ⟨ta, 0, none⟩) (A.off AA AA.length) (A.off AA AA.length)) := by
  obtain ⟨LS, lv, nv, PQ, np, hr⟩ := h
  exact ⟨np.pn.z.c2, np.pn.z.c6⟩

theorem NQ.fin {F : Fo} (h : NQ O W lo G M0 KK AA mk sk ma sa tk ta (ndK O KK KR ++ ndA O AA AR) rb (K.off KK KK.length + A.off AA AA.length) w) (gi : GI O A7 (SB A7 lo G wb) KK AA KR AR [] [] [] 0 (tcK F)) (hr : ∃ i : Nat, KK[i]? = some (rb, 1) ∧ KR[i]? = some F) (hO : O rb = 0) : GE W w rb F G := by
  obtain ⟨LS, lv, nv, PQ, np, hx⟩ := h
  refine ⟨O, A7, lo, wb, M0, KK, AA, KR, AR, mk, sk, ma, sa, tk, ta, LS, lv, nv, PQ, gi, ?_, hr, hx, hO⟩
  have e : (ndK O KK KR ++ ndA O AA AR).length = K.off KK KK.length + A.off AA AA.length := by rw [List.length_append, gi.numK, gi.numA]
  rw [e]
  exact np
end

end Go.Proofs.Ytfgmgbkiebeeoaa
