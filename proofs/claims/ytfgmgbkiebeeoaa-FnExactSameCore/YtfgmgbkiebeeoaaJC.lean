import Derived.Test.YtfgmgbkiebeeoaaJA
import Derived.Test.YtfgmgbkiebeeoaaJB
namespace Go.Proofs.Ytfgmgbkiebeeoaa
open Go.RowKit Go.Joins
variable {OK OA : Nat → Nat} {RG : Nat → Option Value}

theorem ownsRow_type {W : World} {B n sz : Nat} {e : TypeId} {v : Value} {xs : List Value} (h : W.ownsRow B e sz v n xs) : ∀ b, v.ownBlock = some b → ∃ cur, W.heap[b]? = some (.cells cur e (0, 0)) := fun b hb => by
  rcases h.2 with ⟨rfl, -⟩ | ⟨g, cap, cur, rfl, -, hg, -⟩
  · simp [Value.ownBlock] at hb
  · have : g = b := Option.some.inj hb
    rw [← this]
    exact ⟨cur, hg⟩

/-- The closure that lets a term wait. -/
def wfn (wb : Nat) : Value := .func (.func 35) #[] #[.pointer (some ⟨wb, 0, none⟩)]

/-- All that newCoreGround has while it goes through the terms. -/
structure St (OK OA : Nat → Nat) (RG : Nat → Option Value) (lo G wb fb : Nat) (V : World) (KK AA Q : List (Nat × Nat)) (mk sk ma sa wv : Value) : Prop where
  k : K.GS OK lo G V KK KK mk sk K.zf
  a : A.GS OA lo G V AA AA ma sa A.zf
  w : Bx V wb [wv]
  f : Bx V fb [wfn wb]
  q : V.ownsRow lo 87 1 wv Q.length (Q.map kp)
  dM : ∀ M, mk = .map (some M) → ma ≠ .map (some M)
  dS : ∀ b, sk.ownBlock = some b → sa.ownBlock ≠ some b
  hw : wb < lo ∧ wb ≠ G
  hf : fb < lo ∧ fb ≠ G ∧ fb ≠ wb
  hl : (∀ e ∈ KK, e.1 ≠ wb) ∧ ∀ e ∈ AA, e.1 ≠ wb
  rg : ∀ j, j ≠ 0 → j ≠ 1 → j ≠ 4 → j ≠ 5 → V.cell? ⟨G, j, none⟩ = RG j

section
variable {lo G wb fb : Nat} {V : World} {KK AA Q : List (Nat × Nat)} {mk sk ma sa wv : Value}

theorem St.kept (h : St OK OA RG lo G wb fb V KK AA Q mk sk ma sa wv) {V' : World} (k : Kept (fun _ => True) V V') : St OK OA RG lo G wb fb V' KK AA Q mk sk ma sa wv :=
  ⟨h.k.kept k, h.a.kept k, h.w.kept k trivial, h.f.kept k trivial, ownsRow_kept h.q k (fun _ _ => trivial), h.dM, h.dS, h.hw, h.hf, h.hl, fun j a b c d => (k.cell (p := ⟨G, j, none⟩) (by have := h.k.hg; have := h.k.hv; show G < _; omega) trivial).trans (h.rg j a b c d)⟩

/-- The rows and maps lie apart. -/
theorem St.apart (h : St OK OA RG lo G wb fb V KK AA Q mk sk ma sa wv) : (∀ d, wv.ownBlock = some d → mk ≠ .map (some d) ∧ ma ≠ .map (some d) ∧ sk.ownBlock ≠ some d ∧ sa.ownBlock ≠ some d ∧ lo ≤ d) ∧ (∀ d, mk = .map (some d) → sk.ownBlock ≠ some d ∧ sa.ownBlock ≠ some d ∧ lo ≤ d) ∧ (∀ d, ma = .map (some d) → sk.ownBlock ≠ some d ∧ sa.ownBlock ≠ some d ∧ lo ≤ d) := by
  have mkm : ∀ d, mk = .map (some d) → (∃ es c, V.heap[d]? = some (.map es c)) ∧ lo ≤ d := fun d e => by
    rcases h.k.mp with ⟨-, h1⟩ | ⟨M, h1, ⟨es, c, h2, -⟩, h3⟩
    · rw [e] at h1; cases h1
    · rw [e] at h1; cases h1; exact ⟨⟨es, c, h2⟩, h3⟩
  have mam : ∀ d, ma = .map (some d) → (∃ es c, V.heap[d]? = some (.map es c)) ∧ lo ≤ d := fun d e => by
    rcases h.a.mp with ⟨-, h1⟩ | ⟨M, h1, ⟨es, c, h2, -⟩, h3⟩
    · rw [e] at h1; cases h1
    · rw [e] at h1; cases h1; exact ⟨⟨es, c, h2⟩, h3⟩
  have tk := ownsRow_type h.k.ow
  have ta := ownsRow_type h.a.ow
  have tq := ownsRow_type h.q
  refine ⟨fun d e => ?_, fun d e => ?_, fun d e => ?_⟩
  · obtain ⟨cur, hc⟩ := tq d e
    refine ⟨fun e1 => ?_, fun e1 => ?_, fun e1 => ?_, fun e1 => ?_, ownsRow_blk h.q d e⟩
    · obtain ⟨⟨es, c, h2⟩, -⟩ := mkm d e1; rw [hc] at h2; cases h2
    · obtain ⟨⟨es, c, h2⟩, -⟩ := mam d e1; rw [hc] at h2; cases h2
    · obtain ⟨cur', h2⟩ := tk d e1; rw [hc] at h2; cases h2
    · obtain ⟨cur', h2⟩ := ta d e1; rw [hc] at h2; cases h2
  · obtain ⟨⟨es, c, h2⟩, h3⟩ := mkm d e
    refine ⟨fun e1 => ?_, fun e1 => ?_, h3⟩
    · obtain ⟨cur', h4⟩ := tk d e1; rw [h4] at h2; cases h2
    · obtain ⟨cur', h4⟩ := ta d e1; rw [h4] at h2; cases h2
  · obtain ⟨⟨es, c, h2⟩, h3⟩ := mam d e
    refine ⟨fun e1 => ?_, fun e1 => ?_, h3⟩
    · obtain ⟨cur', h4⟩ := tk d e1; rw [h4] at h2; cases h2
    · obtain ⟨cur', h4⟩ := ta d e1; rw [h4] at h2; cases h2

/-- What a put of a kid leaves. -/
theorem St.setK (h : St OK OA RG lo G wb fb V KK AA Q mk sk ma sa wv) {V' : World} {KK' : List (Nat × Nat)} {M r n cap : Nat} (g : K.GS OK lo G V' KK' KK' (.map (some M)) (.slice (some ⟨r, 0, none⟩) n cap) K.zf) (k : Kept (fun d => d ≠ G ∧ mk ≠ .map (some d) ∧ sk.ownBlock ≠ some d) V V') (hc : ∀ j, j ≠ 0 → j ≠ 1 → V'.cell? ⟨G, j, none⟩ = V.cell? ⟨G, j, none⟩) (hM : mk = .map (some M) ∨ V.heap.size ≤ M) (hr : sk.ownBlock = some r ∨ V.heap.size ≤ r) (hl' : ∀ e ∈ KK', e.1 ≠ wb) :
    St OK OA RG lo G wb fb V' KK' AA Q (.map (some M)) (.slice (some ⟨r, 0, none⟩) n cap) ma sa wv := by
  obtain ⟨a1, a2, a3⟩ := h.apart
  have hmlt : ∀ d, ma = .map (some d) → d < V.heap.size := fun d e => by
    rcases h.a.mp with ⟨-, h1⟩ | ⟨M, h1, h2, -⟩
    · rw [e] at h1; cases h1
    · rw [e] at h1; cases h1; exact h2.lt
  have hslt : ∀ d, sa.ownBlock = some d → d < V.heap.size := fun d e => by
    obtain ⟨cur, h1⟩ := ownsRow_type h.a.ow d e
    exact (Array.getElem?_eq_some_iff.1 h1).1
  have lw : ∀ d, d < lo → d ≠ G → d ≠ G ∧ mk ≠ .map (some d) ∧ sk.ownBlock ≠ some d := fun d hd hG => ⟨hG, fun e => by have := (a2 d e).2.2; omega, fun e => by have := ownsRow_blk h.k.ow d e; omega⟩
  refine ⟨g, h.a.frame k (fun e he => lw e.1 (h.a.lv e he).2.1 (h.a.lv e he).2.2) (fun d hd => ?_) ((hc 4 (by omega) (by omega)).trans h.a.gm) ((hc 5 (by omega) (by omega)).trans h.a.gs) g.gf, h.w.kept k (lw wb h.hw.1 h.hw.2), h.f.kept k (lw fb h.hf.1 h.hf.2.1), ownsRow_kept h.q k (fun b e => ?_), fun M' e e' => ?_, fun b e e' => ?_, h.hw, h.hf, ⟨hl', h.hl.2⟩, fun j a b c d => (hc j a b).trans (h.rg j a b c d)⟩
  · rcases hd with h1 | h1
    · exact ⟨by have := (a3 d h1).2.2; have := h.k.hg; omega, fun e => h.dM d e h1, (a3 d h1).1⟩
    · exact ⟨by have := ownsRow_blk h.a.ow d h1; have := h.k.hg; omega, fun e => (a2 d e).2.1 h1, fun e => h.dS d e h1⟩
  · obtain ⟨x1, x2, x3, x4, x5⟩ := a1 b e
    exact ⟨by have := h.k.hg; omega, x1, x3⟩
  · cases e
    rcases hM with hM | hM
    · exact h.dM M hM e'
    · have := hmlt M e'; omega
  · have eb : r = b := Option.some.inj e
    subst eb
    rcases hr with hr | hr
    · exact h.dS r hr e'
    · have := hslt r e'; omega
end

/-- Another block is written. -/
theorem St.off {lo G wb fb : Nat} {V : World} {KK AA Q : List (Nat × Nat)} {mk sk ma sa wv : Value} (h : St OK OA RG lo G wb fb V KK AA Q mk sk ma sa wv) {V' : World} {x : Nat} (k : Kept (fun d => d ≠ x) V V') (hx : lo ≤ x) (h1 : mk ≠ .map (some x)) (h2 : ma ≠ .map (some x)) (h3 : sk.ownBlock ≠ some x) (h4 : sa.ownBlock ≠ some x) (h5 : wv.ownBlock ≠ some x) : St OK OA RG lo G wb fb V' KK AA Q mk sk ma sa wv := by
  have gl := h.k.hg
  exact ⟨h.k.off k hx (fun M e e' => h1 (by rw [e, e'])) (fun b e e' => h3 (by rw [e, e'])), h.a.off k hx (fun M e e' => h2 (by rw [e, e'])) (fun b e e' => h4 (by rw [e, e'])), h.w.kept k (by have := h.hw.1; omega), h.f.kept k (by have := h.hf.1; omega), ownsRow_kept h.q k (fun b e e' => h5 (by rw [e, e'])), h.dM, h.dS, h.hw, h.hf, h.hl, fun j a b c d => (k.cell (p := ⟨G, j, none⟩) (by have := h.k.hv; show G < _; omega) (by show G ≠ x; omega)).trans (h.rg j a b c d)⟩

/-- What is younger than all of it. -/
theorem St.fresh {lo G wb fb : Nat} {V : World} {KK AA Q : List (Nat × Nat)} {mk sk ma sa wv : Value} (h : St OK OA RG lo G wb fb V KK AA Q mk sk ma sa wv) {x : Nat} (hx : V.heap.size ≤ x) : mk ≠ .map (some x) ∧ ma ≠ .map (some x) ∧ sk.ownBlock ≠ some x ∧ sa.ownBlock ≠ some x ∧ wv.ownBlock ≠ some x := by
  refine ⟨fun e => ?_, fun e => ?_, fun e => ?_, fun e => ?_, fun e => ?_⟩
  · rcases h.k.mp with ⟨-, h1⟩ | ⟨M, h1, h2, -⟩
    · rw [e] at h1; cases h1
    · rw [e] at h1; cases h1; have := h2.lt; omega
  · rcases h.a.mp with ⟨-, h1⟩ | ⟨M, h1, h2, -⟩
    · rw [e] at h1; cases h1
    · rw [e] at h1; cases h1; have := h2.lt; omega
  · obtain ⟨cur, h1⟩ := ownsRow_type h.k.ow x e
    have := (Array.getElem?_eq_some_iff.1 h1).1; omega
  · obtain ⟨cur, h1⟩ := ownsRow_type h.a.ow x e
    have := (Array.getElem?_eq_some_iff.1 h1).1; omega
  · obtain ⟨cur, h1⟩ := ownsRow_type h.q x e
    have := (Array.getElem?_eq_some_iff.1 h1).1; omega

theorem Try.info87 : (Try.prog.info? 87).map (fun i => (i.zero, i.size, i.bytes)) = some (some (.pointer none), 1, 8) := by kernel_rfl

set_option maxHeartbeats 2000000 in
set_option maxRecDepth 100000 in
/-- A term waits. -/
theorem i_wait {lo G wb fb : Nat} {V : World} {KK AA Q : List (Nat × Nat)} {mk sk ma sa wv : Value} (h : St OK OA RG lo G wb fb V KK AA Q mk sk ma sa wv) (x : Nat × Nat) (hq : Q.length ≤ 10000000) :
    Calls Try.prog 35 #[.pointer (some ⟨x.1, x.2, none⟩), .pointer (some ⟨wb, 0, none⟩)] V fun e V' => e = .returned (.tuple #[]) ∧ ∃ r cap, St OK OA RG lo G wb fb V' KK AA (Q ++ [x]) mk sk ma sa (.slice (some ⟨r, 0, none⟩) (Q.length + 1) cap) ∧ Kept (fun d => wv.ownBlock ≠ some d ∧ d ≠ wb) V V' ∧ (wv.ownBlock = some r ∨ V.heap.size ≤ r) := by
  obtain ⟨a1, a2, a3⟩ := h.apart
  obtain ⟨n, hn⟩ : ∃ n, Q.length = n := ⟨_, rfl⟩
  obtain ⟨V2, hV2⟩ : ∃ V2, V.alloc (.cells #[.pointer (some ⟨x.1, x.2, none⟩)] 87) = V2 := ⟨_, rfl⟩
  have k2 : Kept (fun _ => True) V V2 := by rw [← hV2]; exact Kept.alloc _ _ _
  have h2 := h.kept k2
  have HN : Hid (V2.heap[V.heap.size]? = some (.cells #[.pointer (some ⟨x.1, x.2, none⟩)] 87)) := by unfold Hid; rw [← hV2]; exact heap_new _ _
  have HOW : Hid (V2.ownsRow lo 87 1 wv n (Q.map kp)) := by have := h2.q; rw [hn] at this; exact this
  have HZ := hide h2.k.hv
  have h63 : Hid (n + 1 ≤ maxLen ∧ (n + 1) * 8 ≤ 140737488355328) := ⟨by unfold maxLen; omega, by omega⟩
  have HFIN : Hid (∀ r cap W', W'.ownsRow lo 87 1 (.slice (some ⟨r, 0, none⟩) (n + 1) cap) (n + 1) (Q.map kp ++ [.pointer (some ⟨x.1, x.2, none⟩)]) → V2.grownBy W' wv.ownBlock → (wv.ownBlock = some r ∨ r = V2.heap.size) → (W'.cell? ⟨wb, 0, none⟩ = some wv ∧ W'.frozen? ⟨wb, 0, none⟩ = false) ∧ St OK OA RG lo G wb fb (W'.setCell ⟨wb, 0, none⟩ (.slice (some ⟨r, 0, none⟩) (n + 1) cap)) KK AA (Q ++ [x]) mk sk ma sa (.slice (some ⟨r, 0, none⟩) (n + 1) cap) ∧ Kept (fun d => wv.ownBlock ≠ some d ∧ d ≠ wb) V (W'.setCell ⟨wb, 0, none⟩ (.slice (some ⟨r, 0, none⟩) (n + 1) cap)) ∧ (wv.ownBlock = some r ∨ V.heap.size ≤ r)) := fun r cap W' o1 o2 o3 => by
    have kO : Kept (fun d => wv.ownBlock ≠ some d) V2 W' := Kept.grown o2 (fun d e hd => hd e)
    have kS : Kept (fun d => d ≠ wb) W' (W'.setCell ⟨wb, 0, none⟩ (.slice (some ⟨r, 0, none⟩) (n + 1) cap)) := Kept.setCell _ _ _ _ (by simp)
    have kk : Kept (fun d => wv.ownBlock ≠ some d ∧ d ≠ wb) V2 (W'.setCell ⟨wb, 0, none⟩ (.slice (some ⟨r, 0, none⟩) (n + 1) cap)) := (kO.mono (fun _ _ hd => hd.1)).trans (kS.mono (fun _ _ hd => hd.2))
    have low : ∀ d, d < lo → d ≠ wb → wv.ownBlock ≠ some d ∧ d ≠ wb := fun d hd hw => ⟨fun e => by have := ownsRow_blk h.q d e; omega, hw⟩
    have hG := low G h.k.hg (fun e => h.hw.2 e.symm)
    have gl := h2.k.hg
    have gv := h2.k.hv
    have hwq : ∀ d, lo ≤ d → (mk = .map (some d) ∨ ma = .map (some d) ∨ sk.ownBlock = some d ∨ sa.ownBlock = some d) → wv.ownBlock ≠ some d ∧ d ≠ wb := fun d hd ho => ⟨fun e => by
      obtain ⟨x1, x2, x3, x4, -⟩ := a1 d e
      rcases ho with h1 | h1 | h1 | h1
      · exact x1 h1
      · exact x2 h1
      · exact x3 h1
      · exact x4 h1, by have := h.hw.1; omega⟩
    have bw := (h2.w.kept kO (fun e => by have := ownsRow_blk h.q wb e; have := h.hw.1; omega))
    have cG : ∀ j, (W'.setCell ⟨wb, 0, none⟩ (.slice (some ⟨r, 0, none⟩) (n + 1) cap)).cell? ⟨G, j, none⟩ = V2.cell? ⟨G, j, none⟩ := fun j => kk.cell (p := ⟨G, j, none⟩) (by show G < _; omega) hG
    have fG : ∀ j, (W'.setCell ⟨wb, 0, none⟩ (.slice (some ⟨r, 0, none⟩) (n + 1) cap)).frozen? ⟨G, j, none⟩ = false := fun j => (kk.frozen (p := ⟨G, j, none⟩) (by show G < _; omega) hG).trans (h2.k.gf j)
    refine ⟨⟨bw.cel 0 _ rfl, bw.live 0⟩, ⟨h2.k.frame kk (fun e he => low e.1 (h2.k.lv e he).2.1 (h.hl.1 e he)) (fun d hd => ?_) ((cG 0).trans h2.k.gm) ((cG 1).trans h2.k.gs) fG, h2.a.frame kk (fun e he => low e.1 (h2.a.lv e he).2.1 (h.hl.2 e he)) (fun d hd => ?_) ((cG 4).trans h2.a.gm) ((cG 5).trans h2.a.gs) fG, (bw.put 0 _ (by simp) : Bx _ wb [_]), h2.f.kept kk (low fb h.hf.1 h.hf.2.2), ?_, h.dM, h.dS, h.hw, h.hf, h.hl, fun j a b c d => (cG j).trans (h2.rg j a b c d)⟩, ?_⟩
    · rcases hd with h1 | h1
      · exact hwq d (a2 d h1).2.2 (.inl h1)
      · exact hwq d (ownsRow_blk h.k.ow d h1) (.inr (.inr (.inl h1)))
    · rcases hd with h1 | h1
      · exact hwq d (a3 d h1).2.2 (.inr (.inl h1))
      · exact hwq d (ownsRow_blk h.a.ow d h1) (.inr (.inr (.inr h1)))
    · have o1' := ownsRow_kept o1 kS (fun b e => by have := ownsRow_blk o1 b e; have := h.hw.1; omega)
      rw [List.length_append, List.map_append, hn]
      exact o1'
    · refine ⟨(k2.mono (fun _ _ _ => trivial)).trans kk, ?_⟩
      rcases o3 with o3 | o3
      · exact .inl o3
      · exact .inr (by have := k2.size; omega)
  have c0 := h.w.cel 0 _ rfl
  have HV2 := hide hV2
  rw [hn]
  clear hV2 h h2 k2 a1 a2 a3 hn hq
  go_enter Try.func35, Try.ntmps35
  go_wp2_with (at_builtin; rw [HV2.out]; refine ur_stepL rfl _ _ 65 87 rfl Try.info87 Try.underlying65 rfl (by decide) lo V2 wv n (Q.map kp) [.pointer (some ⟨x.1, x.2, none⟩)] _ _ rfl rfl HZ.out HOW.out HN.out rfl (by simp [Value.oneCell']) h63.out.1 h63.out.2 ?_; intro r cap w3 hO7 hG7 hB7; have HA7 := hide (HFIN.out r cap w3 hO7 hG7 hB7); have x1 := HA7.out.1.1; have x2 := HA7.out.1.2; clear hO7 hG7 hB7)
  exact bodyPost_end (results_none rfl _ _ _) rfl ⟨rfl, r, cap, HA7.out.2⟩
end Go.Proofs.Ytfgmgbkiebeeoaa

namespace Go.Proofs.Ytfgmgbkiebeeoaa
open Go.RowKit Go.Joins
variable {OK OA : Nat → Nat} {RG : Nat → Option Value}

/-- The terms of a list of kids, by where they lie. -/
def kidsAt (O : Nat → Nat) (b n : Nat) : List (Nat × Nat) := (List.range n).map (fun j => (b, O b + j * 7))
theorem kidsAt_succ (O : Nat → Nat) (b n : Nat) : kidsAt O b (n + 1) = kidsAt O b n ++ [(b, O b + n * 7)] := by simp [kidsAt, List.range_succ]
theorem kidsAt_len (O : Nat → Nat) (b n : Nat) : (kidsAt O b n).length = n := by simp [kidsAt]

/-- What add leaves. -/
def AdP (OK OA : Nat → Nat) (RG : Nat → Option Value) (lo G wb fb : Nat) (V : World) (KK AA Q : List (Nat × Nat)) (ma sa : Value) (V' : World) : Prop :=
  ∃ mk sk wv, St OK OA RG lo G wb fb V' KK AA Q mk sk ma sa wv ∧ Kept (fun d => d < lo ∧ d ≠ G ∧ d ≠ wb) V V'

set_option maxHeartbeats 4000000 in
set_option maxRecDepth 100000 in
theorem i_addK0 {lo G wb fb : Nat} {V : World} {KK AA Q : List (Nat × Nat)} {mk sk ma sa wv : Value} (h : St OK OA RG lo G wb fb V KK AA Q mk sk ma sa wv) (a : Option Addr) (cap : Nat) :
    Calls Try.prog 36 #[.pointer (some ⟨G, 0, none⟩), .slice a 0 cap, wfn wb] V fun e V' => e = .returned (.tuple #[]) ∧ AdP OK OA RG lo G wb fb V KK AA Q ma sa V' := by
  have HF : Hid (AdP OK OA RG lo G wb fb V KK AA Q ma sa V) := ⟨mk, sk, wv, h, Kept.refl _ _⟩
  clear h
  go_enter Try.func36, Try.ntmps36
  go_wp2_with fail
  go_loopw [7] (fun s7 wr => s7 = .int .i64 0 ∧ wr = V) (fun _ _ => 0)
  case atStart => exact ⟨rfl, rfl⟩
  case round =>
    obtain ⟨rfl, hw⟩ := hrel
    obtain rfl : V = wr := hw.symm
    go_wp2_with fail
    exact bodyPost_end (results_none rfl _ _ _) rfl ⟨rfl, HF.out⟩

/-- The strips behind j things of a list. -/
def upto (KK : List (Nat × Nat)) (b j : Nat) : List (Nat × Nat) := if j = 0 then KK else KK ++ [(b, j)]
theorem upto_succ (KK : List (Nat × Nat)) (b j : Nat) : upto KK b (j + 1) = KK ++ [(b, j + 1)] := if_neg (by omega)

theorem i_putK {lo G wb fb : Nat} {V : World} {KK AA Q : List (Nat × Nat)} {mk sk ma sa wv : Value} {b j i : Nat} {s6 : Int} (hi : KK.length = i) (hs : (j = 0 ∧ s6 = -1) ∨ (0 < j ∧ s6 = i)) (h : St OK OA RG lo G wb fb V (upto KK b j) AA Q mk sk ma sa wv) (hb : ∀ e ∈ KK, e.1 ≠ b) (lb : LiveB V b ∧ b < lo ∧ b ≠ G ∧ b ≠ wb) (hl : i ≤ 10000000) (hj : j ≤ 10000000) :
    Calls Try.prog 54 #[.pointer (some ⟨G, 0, none⟩), .pointer (some ⟨b, OK b + j * 7, none⟩), .int .i64 s6] V fun e V' => e = .returned (.agg #[.int .i64 i, .int .i64 j]) ∧ ∃ M r cap, St OK OA RG lo G wb fb V' (KK ++ [(b, j + 1)]) AA Q (.map (some M)) (.slice (some ⟨r, 0, none⟩) (i + 1) cap) ma sa wv ∧ Kept (fun d => d ≠ G ∧ mk ≠ .map (some d) ∧ sk.ownBlock ≠ some d) V V' ∧ (mk = .map (some M) ∨ V.heap.size ≤ M) ∧ (sk.ownBlock = some r ∨ V.heap.size ≤ r) := by
  have hwb : ∀ n, ∀ e ∈ KK ++ [(b, n)], e.1 ≠ wb := fun n e he => by
    rcases List.mem_append.1 he with he | he
    · refine h.hl.1 e ?_
      unfold upto
      split
      · exact he
      · exact List.mem_append.2 (.inl he)
    · have : e = (b, n) := by simpa using he
      rw [this]
      exact lb.2.2.2
  rcases hs with ⟨rfl, rfl⟩ | ⟨h0, rfl⟩
  · have hk : K.GS OK lo G V KK KK mk sk K.zf := h.k
    have hz : OK b + 0 * 7 = OK b := rfl
    rw [hz]
    rcases hk.mp with ⟨h1, h2⟩ | ⟨M, h2, -, hM⟩
    · subst h2
      refine (K.i_putN hi hk hb ⟨lb.1, lb.2.1, lb.2.2.1⟩ hl).mono ?_
      rintro e V' ⟨M, r, cap, rfl, g1, g2, g3, g4, g5⟩
      have kk : Kept (fun d => d ≠ G ∧ Value.map none ≠ .map (some d) ∧ sk.ownBlock ≠ some d) V V' := g2.mono (fun d _ x => ⟨x.1, x.2.2⟩)
      exact ⟨rfl, M, r, cap, St.setK h g1 kk g3 (.inr g4) g5 (hwb 1), kk, .inr g4, g5⟩
    · subst h2
      refine (K.i_putA hi hk hb ⟨lb.1, lb.2.1, lb.2.2.1⟩ hl).mono ?_
      rintro e V' ⟨r, cap, rfl, g1, g2, g3, -, g5⟩
      have kk : Kept (fun d => d ≠ G ∧ Value.map (some M) ≠ .map (some d) ∧ sk.ownBlock ≠ some d) V V' := g2.mono (fun d _ x => ⟨x.1, fun e => x.2.1 (by rw [e]), x.2.2⟩)
      exact ⟨rfl, M, r, cap, St.setK h g1 kk g3 (.inl rfl) g5 (hwb 1), kk, .inl rfl, g5⟩
  · have hu : upto KK b j = KK ++ [(b, j)] := if_neg (by omega)
    rw [hu] at h
    have hk := h.k
    obtain ⟨r, cap, hsk, -, -, -⟩ := hk.slice (by simp)
    have hlen : (KK ++ [(b, j)]).length = i + 1 := by simp [hi]
    rw [hlen] at hsk
    subst hsk
    rcases hk.mp with ⟨h1, -⟩ | ⟨M, h2, -, hM⟩
    · simp at h1
    · subst h2
      refine (K.i_putB hi hk hb hl hj).mono ?_
      rintro e V' ⟨rfl, g1, g2⟩
      have gM : M ≠ G := by have := hk.hg; omega
      have gr : r ≠ G := by have := hk.hg; have := ownsRow_blk hk.ow r rfl; omega
      have kk : Kept (fun d => d ≠ G ∧ Value.map (some M) ≠ .map (some d) ∧ (Value.slice (some ⟨r, 0, none⟩) (i + 1) cap).ownBlock ≠ some d) V V' := g2.mono (fun d _ x => ⟨fun e => x.2.1 (by rw [e]), fun e => x.2.2 (by rw [e]; rfl)⟩)
      have hc : ∀ q, q ≠ 0 → q ≠ 1 → V'.cell? ⟨G, q, none⟩ = V.cell? ⟨G, q, none⟩ := fun q _ _ => g2.cell (p := ⟨G, q, none⟩) (by have := hk.hg; have := hk.hv; show G < _; omega) ⟨fun e => gM e.symm, fun e => gr e.symm⟩
      exact ⟨rfl, M, r, cap, St.setK h g1 kk hc (.inl rfl) (.inl rfl) (hwb _), kk, .inl rfl, .inl rfl⟩

end Go.Proofs.Ytfgmgbkiebeeoaa

namespace Go.Proofs.Ytfgmgbkiebeeoaa
open Go.RowKit Go.Joins
variable {OK OA : Nat → Nat} {RG : Nat → Option Value}

/-- A thing that is not there yet. -/
theorem St.miss {lo G wb fb : Nat} {V : World} {KK AA Q : List (Nat × Nat)} {mk sk ma sa wv : Value} {b j : Nat} (h : St OK OA RG lo G wb fb V (upto KK b j) AA Q mk sk ma sa wv) (hb : ∀ e ∈ KK, e.1 ≠ b) (lb : LiveB V b) :
    (Instr.lookup 63 mk (.pointer (some ⟨b, OK b + j * 7, none⟩)) true).run Try.prog V = .ok (.tuple #[.agg #[.int .i64 0, .int .i64 0], .bool false]) V := by
  rcases h.k.mp with ⟨-, h2⟩ | ⟨M, h2, hM, -⟩
  · subst h2
    exact MP.nilK (b, OK b + j * 7) true
  · subst h2
    refine MP.missK hM (fun p hp => ?_) (b, OK b + j * 7) lb ?_ true
    · obtain ⟨k, e, e1, e2, -⟩ := K.ents_mem 0 _ p hp
      rw [e2]
      exact (h.k.lv e (List.mem_of_getElem? e1)).1
    · unfold upto
      split
      · exact K.ents_new hb _
      · exact K.ents_next hb

/-- Behind the put and the wait of a round. -/
def PW (OK OA : Nat → Nat) (RG : Nat → Option Value) (lo G wb fb : Nat) (V : World) (KK AA Q : List (Nat × Nat)) (ma sa : Value) (b j i x : Nat) (W : World) : Prop :=
  ∃ M r cap wv, St OK OA RG lo G wb fb W (KK ++ [(b, j + 1)]) AA (Q ++ kidsAt OK b (j + 1)) (.map (some M)) (.slice (some ⟨r, 0, none⟩) (i + 1) cap) ma sa wv ∧ Bx W x [.int .i64 i, .int .i64 j] ∧ (lo ≤ x ∧ M ≠ x ∧ r ≠ x ∧ wv.ownBlock ≠ some x ∧ ma ≠ .map (some x) ∧ sa.ownBlock ≠ some x) ∧ Kept (fun d => d < lo ∧ d ≠ G ∧ d ≠ wb) V W

theorem PW.kept {lo G wb fb : Nat} {V : World} {KK AA Q : List (Nat × Nat)} {ma sa : Value} {b j i x : Nat} {W W' : World} (h : PW OK OA RG lo G wb fb V KK AA Q ma sa b j i x W) (k : Kept (fun _ => True) W W') : PW OK OA RG lo G wb fb V KK AA Q ma sa b j i x W' := by
  obtain ⟨M, r, cap, wv, h1, h2, h3, h4⟩ := h
  exact ⟨M, r, cap, wv, h1.kept k, h2.kept k trivial, h3, h4.trans (k.mono (fun _ _ _ => trivial))⟩

theorem PW.put {lo G wb fb : Nat} {V : World} {KK AA Q : List (Nat × Nat)} {ma sa : Value} {b j i x : Nat} {W : World} (h : PW OK OA RG lo G wb fb V KK AA Q ma sa b j i x W) : PW OK OA RG lo G wb fb V KK AA Q ma sa b j i x ((W.setCell ⟨x, 0, none⟩ (.int .i64 i)).setCell ⟨x, 1, none⟩ (.int .i64 j)) := by
  obtain ⟨M, r, cap, wv, h1, h2, h3, h4⟩ := h
  have k5 : Kept (fun d => d ≠ x) W ((W.setCell ⟨x, 0, none⟩ (.int .i64 i)).setCell ⟨x, 1, none⟩ (.int .i64 j)) := ((Kept.refl _ _).set (by simp)).set (by simp)
  refine ⟨M, r, cap, wv, h1.off k5 h3.1 (fun e => h3.2.1 (by cases e; rfl)) h3.2.2.2.2.1 (fun e => h3.2.2.1 (Option.some.inj e)) h3.2.2.2.2.2 h3.2.2.2.1, ?_, h3, h4.trans (k5.mono (fun d _ hd => by have := hd.1; have := h3.1; omega))⟩
  exact (h2.put 0 (.int .i64 i) (by simp)).put 1 (.int .i64 j) (by simp)

/-- What the put of a round leaves, its box written. -/
theorem put_round {lo G wb fb : Nat} {V v1 v2 : World} {KK AA Q : List (Nat × Nat)} {mk sk ma sa wv : Value} {b j i x M r cap : Nat} (h : St OK OA RG lo G wb fb v1 (upto KK b j) AA Q mk sk ma sa wv) (hx : lo ≤ x) (hxl : x < v1.heap.size) (hf : mk ≠ .map (some x) ∧ ma ≠ .map (some x) ∧ sk.ownBlock ≠ some x ∧ sa.ownBlock ≠ some x ∧ wv.ownBlock ≠ some x) (bx : Bx v1 x [.int .i64 0, .int .i64 0]) (hk : Kept (fun d => d < lo ∧ d ≠ G ∧ d ≠ wb) V v1)
    (g1 : St OK OA RG lo G wb fb v2 (KK ++ [(b, j + 1)]) AA Q (.map (some M)) (.slice (some ⟨r, 0, none⟩) (i + 1) cap) ma sa wv) (g2 : Kept (fun d => d ≠ G ∧ mk ≠ .map (some d) ∧ sk.ownBlock ≠ some d) v1 v2) (g3 : mk = .map (some M) ∨ v1.heap.size ≤ M) (g4 : sk.ownBlock = some r ∨ v1.heap.size ≤ r) :
    Bx v2 x [.int .i64 0, .int .i64 0] ∧ St OK OA RG lo G wb fb ((v2.setCell ⟨x, 0, none⟩ (.int .i64 i)).setCell ⟨x, 1, none⟩ (.int .i64 j)) (KK ++ [(b, j + 1)]) AA Q (.map (some M)) (.slice (some ⟨r, 0, none⟩) (i + 1) cap) ma sa wv ∧ Bx ((v2.setCell ⟨x, 0, none⟩ (.int .i64 i)).setCell ⟨x, 1, none⟩ (.int .i64 j)) x [.int .i64 i, .int .i64 j] ∧ (M ≠ x ∧ r ≠ x) ∧ Kept (fun d => d < lo ∧ d ≠ G ∧ d ≠ wb) V ((v2.setCell ⟨x, 0, none⟩ (.int .i64 i)).setCell ⟨x, 1, none⟩ (.int .i64 j)) ∧ v1.heap.size ≤ ((v2.setCell ⟨x, 0, none⟩ (.int .i64 i)).setCell ⟨x, 1, none⟩ (.int .i64 j)).heap.size := by
  have hG := h.k.hg
  have k5 : Kept (fun d => d ≠ x) v2 ((v2.setCell ⟨x, 0, none⟩ (.int .i64 i)).setCell ⟨x, 1, none⟩ (.int .i64 j)) := ((Kept.refl _ _).set (by simp)).set (by simp)
  have eM : M ≠ x := fun e => by
    rcases g3 with g3 | g3
    · exact hf.1 (by rw [g3, e])
    · omega
  have er : r ≠ x := fun e => by
    rcases g4 with g4 | g4
    · exact hf.2.2.1 (by rw [g4, e])
    · omega
  have b2 := bx.kept g2 ⟨by omega, hf.1, hf.2.2.1⟩
  have low : ∀ d, d < lo → d ≠ G → d ≠ G ∧ mk ≠ .map (some d) ∧ sk.ownBlock ≠ some d := fun d hd hg => ⟨hg, fun e => by have := (h.apart.2.1 d e).2.2; omega, fun e => by have := ownsRow_blk h.k.ow d e; omega⟩
  refine ⟨b2, g1.off k5 hx (fun e => eM (by cases e; rfl)) hf.2.1 (fun e => er (Option.some.inj e)) hf.2.2.2.1 hf.2.2.2.2, (b2.put 0 (.int .i64 i) (by simp)).put 1 (.int .i64 j) (by simp), ⟨eM, er⟩, (hk.trans (g2.mono (fun d _ hd => low d hd.1 hd.2.1))).trans (k5.mono (fun d _ hd => by have := hd.1; omega)), Nat.le_trans g2.size k5.size⟩

/-- What the wait of a round leaves. -/
theorem wait_round {lo G wb fb : Nat} {V v3 v4 : World} {KK AA Q : List (Nat × Nat)} {ma sa wv : Value} {b j i x M r cap r' cap' n' : Nat} (h : St OK OA RG lo G wb fb v3 (KK ++ [(b, j + 1)]) AA (Q ++ kidsAt OK b j) (.map (some M)) (.slice (some ⟨r, 0, none⟩) (i + 1) cap) ma sa wv) (hx : lo ≤ x) (hxl : x < v3.heap.size) (hf : ma ≠ .map (some x) ∧ sa.ownBlock ≠ some x ∧ wv.ownBlock ≠ some x) (hm : M ≠ x ∧ r ≠ x) (bx : Bx v3 x [.int .i64 i, .int .i64 j]) (hk : Kept (fun d => d < lo ∧ d ≠ G ∧ d ≠ wb) V v3)
    (g1 : St OK OA RG lo G wb fb v4 (KK ++ [(b, j + 1)]) AA (Q ++ kidsAt OK b j ++ [(b, OK b + j * 7)]) (.map (some M)) (.slice (some ⟨r, 0, none⟩) (i + 1) cap) ma sa (.slice (some ⟨r', 0, none⟩) n' cap')) (g2 : Kept (fun d => wv.ownBlock ≠ some d ∧ d ≠ wb) v3 v4) (g3 : wv.ownBlock = some r' ∨ v3.heap.size ≤ r') : PW OK OA RG lo G wb fb V KK AA Q ma sa b j i x v4 := by
  refine ⟨M, r, cap, _, by rw [kidsAt_succ, ← List.append_assoc]; exact g1, bx.kept g2 ⟨hf.2.2, by have := h.hw.1; omega⟩, ⟨hx, hm.1, hm.2, fun e => ?_, hf.1, hf.2.1⟩, hk.trans (g2.mono (fun d _ hd => ⟨fun e => by have := ownsRow_blk h.q d e; omega, hd.2.2⟩))⟩
  have : r' = x := Option.some.inj e
  rcases g3 with g3 | g3
  · exact hf.2.2 (by rw [g3, this])
  · omega

theorem PW.bx {lo G wb fb : Nat} {V : World} {KK AA Q : List (Nat × Nat)} {ma sa : Value} {b j i x : Nat} {W : World} (h : PW OK OA RG lo G wb fb V KK AA Q ma sa b j i x W) : Bx W x [.int .i64 i, .int .i64 j] := by
  obtain ⟨M, r, cap, wv, h1, h2, h3, h4⟩ := h
  exact h2

theorem PW.whole {lo G wb fb : Nat} {V : World} {KK AA Q : List (Nat × Nat)} {ma sa : Value} {b j i x : Nat} {W : World} (h : PW OK OA RG lo G wb fb V KK AA Q ma sa b j i x W) (hi : KK.length = i) (hl : i < 10000000) :
    Calls Try.prog 55 #[.pointer (some ⟨G, 0, none⟩), .agg #[.int .i64 i, .int .i64 j]] W fun e V' => e = .returned (.agg #[.int .i64 i, .int .i64 j]) ∧ PW OK OA RG lo G wb fb V KK AA Q ma sa b j i x V' := by
  obtain ⟨M, r, cap, wv, h1, h2, h3, h4⟩ := id h
  refine (K.i_whole h1.k i j (by simp [hi]) (by simp [hi]; omega)).mono ?_
  rintro e V' ⟨rfl, k⟩
  exact ⟨rfl, h.kept k⟩

/-- What the end of a round reads. -/
theorem PW.end {lo G wb fb : Nat} {V : World} {KK AA Q : List (Nat × Nat)} {ma sa : Value} {b j i x : Nat} {W : World} (h : PW OK OA RG lo G wb fb V KK AA Q ma sa b j i x W) (hi : KK.length = i) :
    ∃ r cap, i < cap ∧ ∀ W', Kept (fun _ => True) W W' → (W'.cell? ⟨G, 1, none⟩ = some (.slice (some ⟨r, 0, none⟩) (i + 1) cap) ∧ W'.cell? ⟨r, i * 5 + 3, none⟩ = some (.int .i64 ((j : Int) + 1)) ∧ W'.cell? ⟨x, 1, none⟩ = some (.int .i64 j)) ∧ ∃ mk sk wv, St OK OA RG lo G wb fb W' (upto KK b (j + 1)) AA (Q ++ kidsAt OK b (j + 1)) mk sk ma sa wv ∧ Kept (fun d => d < lo ∧ d ≠ G ∧ d ≠ wb) V W' := by
  obtain ⟨M, r, cap, wv, h1, h2, h3, h4⟩ := h
  have hc : i < cap := by
    have ho := h1.k.ow
    rw [List.length_append, hi] at ho
    have := ownsRow_le ho
    omega
  refine ⟨r, cap, hc, fun W' k => ?_⟩
  have h1' := h1.kept k
  have ho := h1'.k.ow
  rw [List.length_append, hi] at ho
  have he : (KK ++ [(b, j + 1)])[i]? = some (b, j + 1) := by rw [List.getElem?_append_right (by omega)]; simp [hi]
  refine ⟨⟨h1'.k.gs, ?_, (h2.kept k trivial).cel 1 _ rfl⟩, _, _, _, by rw [upto_succ]; exact h1', h4.trans (k.mono (fun _ _ _ => trivial))⟩
  have := ownsRow_cell ho (i * 5 + 3) _ (K.strs_get K.zf he (j := 3) rfl)
  rw [this, Int.natCast_add]
  rfl

/-- The state of add at a thing. -/
def AR (OK OA : Nat → Nat) (RG : Nat → Option Value) (lo G wb fb : Nat) (V : World) (KK AA Q : List (Nat × Nat)) (ma sa : Value) (b j : Nat) (W : World) : Prop :=
  ∃ mk sk wv, St OK OA RG lo G wb fb W (upto KK b j) AA (Q ++ kidsAt OK b j) mk sk ma sa wv ∧ Kept (fun d => d < lo ∧ d ≠ G ∧ d ≠ wb) V W

set_option maxHeartbeats 8000000 in
set_option maxRecDepth 100000 in
theorem i_addK {lo G wb fb : Nat} {V : World} {KK AA Q : List (Nat × Nat)} {mk sk ma sa wv : Value} {b n cap i : Nat} (hi : KK.length = i) (h : St OK OA RG lo G wb fb V KK AA Q mk sk ma sa wv) (hb : ∀ e ∈ KK, e.1 ≠ b) (lb : LiveB V b ∧ b < lo ∧ b ≠ G ∧ b ≠ wb) (hl : i < 10000000) (hn : n ≤ 10000000) (hq : Q.length + n ≤ 10000000) (hcap : n ≤ cap) :
    Calls Try.prog 36 #[.pointer (some ⟨G, 0, none⟩), .slice (some ⟨b, OK b, none⟩) n cap, wfn wb] V fun e V' => e = .returned (.tuple #[]) ∧ AdP OK OA RG lo G wb fb V (upto KK b n) AA (Q ++ kidsAt OK b n) ma sa V' := by
  have HA0 : Hid (AR OK OA RG lo G wb fb V KK AA Q ma sa b 0 V) := ⟨mk, sk, wv, by rw [show kidsAt OK b 0 = [] from rfl, List.append_nil]; exact h, Kept.refl _ _⟩
  have HB := hide hb
  have HLB := hide lb
  have HI := hide hi
  have HQ := hide hq
  clear h hb lb hi hq
  go_enter Try.func36, Try.ntmps36
  go_wp2_with fail
  go_loopw [6, 7] (fun s6 s7 wr => ∃ (j : Nat) (s : Int), s7 = .int .i64 j ∧ s6 = .int .i64 s ∧ j ≤ n ∧ ((j = 0 ∧ s = -1) ∨ (0 < j ∧ s = i)) ∧ Hid (AR OK OA RG lo G wb fb V KK AA Q ma sa b j wr)) (fun _ s7 _ => n - (intOf s7).toNat)
  case atStart => exact ⟨0, -1, rfl, rfl, Nat.zero_le _, .inl ⟨rfl, rfl⟩, HA0⟩
  case round =>
    obtain ⟨j, s, rfl, rfl, hjn, hs, har⟩ := hrel
    have HS := hide hs
    clear hs
    by_cases hj : j < n
    · have hjj : (j : Int) < n := by omega
      have hjc : j < cap := by omega
      obtain ⟨mk1, sk1, wv1, hst, hk⟩ := har.out
      clear har
      have HST := hide hst
      have HK := hide hk
      have HL1 : Hid (LiveB wr b) := HLB.out.1.kept hk HLB.out.1.lt HLB.out.2
      clear hst hk
      have HFA : Hid (∀ V', Kept (fun _ => True) wr V' → V'.cell? ⟨G, 0, none⟩ = some mk1 ∧ (Instr.lookup 63 mk1 (.pointer (some ⟨b, OK b + j * 7, none⟩)) true).run Try.prog V' = .ok (.tuple #[.agg #[.int .i64 0, .int .i64 0], .bool false]) V') := fun V' k => by
        have h' := HST.out.kept k
        exact ⟨h'.k.gm, h'.miss HB.out (HL1.out.all k)⟩
      have k0 := HFA.out wr (Kept.refl _ _)
      have k1 := HFA.out wr.drew (Kept.drew _ _)
      have k2 := HFA.out (wr.alloc (.cells #[.int .i64 0, .int .i64 0] 116)) (Kept.alloc _ _ _)
      have k3 := HFA.out (wr.alloc (.cells #[.int .i64 0, .int .i64 0] 116)).drew ((Kept.alloc _ _ _).trans (Kept.drew _ _))
      go_upto_region 3 with fail
      go_cut [8, 9] (fun s8 s9 wx => ∃ x, s8 = .pointer (some ⟨x, 0, none⟩) ∧ s9 = .bool false ∧ wr.heap.size ≤ x ∧ Bx wx x [.int .i64 0, .int .i64 0] ∧ Kept (fun _ => True) wr wx)
      case first =>
        go_region
        all_goals
          go_wp2_with fail
          go_meet
          case rel => exact ⟨_, rfl, rfl, Nat.le_refl _, (Bx.new _ _ _).kept (Kept.drew (fun _ => True) _) trivial, (Kept.alloc _ _ _).trans (Kept.drew _ _)⟩
      case rest =>
      obtain ⟨x, rfl, rfl, hx, hbx, hcb⟩ := hcut
      rename World => v1
      have hfr := HST.out.fresh hx
      have hxlo : lo ≤ x := Nat.le_trans HST.out.k.hv hx
      have HXL : Hid (lo ≤ x ∧ x < v1.heap.size) := ⟨hxlo, hbx.lt⟩
      have HFR := hide hfr
      have HBX := hide hbx
      have HS1 := hide (HST.out.kept hcb)
      have HK1 := hide (HK.out.trans (hcb.mono (fun _ _ _ => trivial)))
      have HP := hide (i_putK HI.out HS.out HS1.out HB.out ⟨HL1.out.all hcb, HLB.out.2⟩ (Nat.le_of_lt hl) (by omega))
      clear hfr hbx hcb hx hxlo k0 k1 k2 k3 HFA
      go_upto_region 5 with fail
      go_upto_region 6 with (go_at_call 54; refine HP.out.mono ?_; rintro e v2 ⟨rfl, M, r, cap1, g1, g2, g3, g4⟩; have HPR := hide (put_round HS1.out HXL.out.1 HXL.out.2 HFR.out HBX.out HK1.out g1 g2 g3 g4); have c0 := HPR.out.1.cel 0 _ rfl; have c1 := HPR.out.1.cel 1 _ rfl; have c2 := HPR.out.1.live 0; have c3 := HPR.out.1.live 1; clear g1 g2 g3 g4)
      have HQL : Hid ((Q ++ kidsAt OK b j).length ≤ 10000000) := by unfold Hid; rw [List.length_append, kidsAt_len]; have := HQ.out; omega
      obtain ⟨v3, hv3⟩ : ∃ v3, (v2.setCell ⟨x, 0, none⟩ (.int .i64 i)).setCell ⟨x, 1, none⟩ (.int .i64 j) = v3 := ⟨_, rfl⟩
      have hpr := HPR.out.2
      rw [hv3] at hpr
      rw [hv3]
      clear HPR c0 c1 c2 c3 hv3
      have HPR := hide hpr
      clear hpr HP HBX HS1 HK1
      have HW := hide (i_wait HPR.out.1 (b, OK b + j * 7) HQL.out)
      go_upto_region 7 with (refine HW.out.mono ?_; rintro e v4 ⟨rfl, r', cap', g1, g2, g3⟩; have HPW := hide (wait_round HPR.out.1 HXL.out.1 (Nat.lt_of_lt_of_le HXL.out.2 HPR.out.2.2.2.2) ⟨HFR.out.2.1, HFR.out.2.2.2.1, HFR.out.2.2.2.2⟩ HPR.out.2.2.1 HPR.out.2.1 HPR.out.2.2.2.1 g1 g2 g3); clear g1 g2 g3)
      clear HW HPR
      have c0 := HPW.out.bx.cel 0 _ rfl
      have c1 := HPW.out.bx.cel 1 _ rfl
      have HWH := hide (HPW.out.whole HI.out (by omega))
      go_upto_region 8 with (go_at_call 55; refine HWH.out.mono ?_; rintro e v5 ⟨rfl, g1⟩; have HP5 := hide g1; clear g1; have d0 := HP5.out.bx.cel 0 _ rfl; have d1 := HP5.out.bx.cel 1 _ rfl; have d2 := HP5.out.bx.live 0; have d3 := HP5.out.bx.live 1)
      clear c0 c1 HWH HPW
      obtain ⟨v6, hv6⟩ : ∃ v6, (v5.setCell ⟨x, 0, none⟩ (.int .i64 i)).setCell ⟨x, 1, none⟩ (.int .i64 j) = v6 := ⟨_, rfl⟩
      have hp6 := HP5.out.put
      rw [hv6] at hp6
      rw [hv6]
      have HP6 := hide hp6
      clear HP5 d0 d1 d2 d3 hv6 hp6
      have e0 := HP6.out.bx.cel 0 _ rfl
      have e1 := HP6.out.bx.cel 1 _ rfl
      go_cut [48] (fun s wx => s = .bool false ∧ wx = v6)
      case first =>
        rcases HS.out with ⟨rfl, rfl⟩ | ⟨h0, rfl⟩
        · go_wp2_with fail
          go_meet
          case rel => exact ⟨rfl, rfl⟩
        · have hii : (i : Int) ≥ 0 := by omega
          go_wp2_with fail
          go_meet
          case rel => exact ⟨by simp, rfl⟩
      case rest =>
      obtain ⟨rfl, hw⟩ := hcut
      have hw2 := hw.symm
      subst hw2
      go_upto_region 12 with fail
      obtain ⟨r2, cap2, hic2, hen⟩ := HP6.out.end HI.out
      have HEN := hide hen
      clear hen e0 e1
      have k0 := (HEN.out v6 (Kept.refl _ _)).1
      have k1 := (HEN.out v6.drew (Kept.drew _ _)).1
      have HSU : Hid ((j : Int) + ((j : Int) + 1 - (j : Int)) = ((j + 1 : Nat) : Int)) := by unfold Hid; omega
      go_region
      all_goals
        go_wp2_with fail
        go_simp
        go_roundw
        case rel => exact ⟨j + 1, HSU.out, by omega, by omega, (HEN.out _ (by first | exact Kept.drew _ _ | exact Kept.refl _ _)).2⟩
        case measure => simp [intOf]; omega
    · obtain rfl : j = n := by omega
      have hjj : ¬ (j : Int) < j := by omega
      have HF : Hid (AdP OK OA RG lo G wb fb V (upto KK b j) AA (Q ++ kidsAt OK b j) ma sa wr) := har.out
      clear har
      go_wp2_with fail
      exact bodyPost_end (results_none rfl _ _ _) rfl ⟨rfl, HF.out⟩

end Go.Proofs.Ytfgmgbkiebeeoaa

namespace Go.Proofs.Ytfgmgbkiebeeoaa
open Go.RowKit Go.Joins
variable {OK OA : Nat → Nat} {RG : Nat → Option Value}

/-- What a put of an alternative leaves. -/
theorem St.setA {lo G wb fb : Nat} {V : World} {KK AA Q : List (Nat × Nat)} {mk sk ma sa wv : Value} (h : St OK OA RG lo G wb fb V KK AA Q mk sk ma sa wv) {V' : World} {AA' : List (Nat × Nat)} {M r n cap : Nat} (g : A.GS OA lo G V' AA' AA' (.map (some M)) (.slice (some ⟨r, 0, none⟩) n cap) A.zf) (k : Kept (fun d => d ≠ G ∧ ma ≠ .map (some d) ∧ sa.ownBlock ≠ some d) V V') (hc : ∀ j, j ≠ 4 → j ≠ 5 → V'.cell? ⟨G, j, none⟩ = V.cell? ⟨G, j, none⟩) (hM : ma = .map (some M) ∨ V.heap.size ≤ M) (hr : sa.ownBlock = some r ∨ V.heap.size ≤ r) (hl' : ∀ e ∈ AA', e.1 ≠ wb) :
    St OK OA RG lo G wb fb V' KK AA' Q mk sk (.map (some M)) (.slice (some ⟨r, 0, none⟩) n cap) wv := by
  obtain ⟨a1, a2, a3⟩ := h.apart
  have hmlt : ∀ d, mk = .map (some d) → d < V.heap.size := fun d e => by
    rcases h.k.mp with ⟨-, h1⟩ | ⟨M, h1, h2, -⟩
    · rw [e] at h1; cases h1
    · rw [e] at h1; cases h1; exact h2.lt
  have hslt : ∀ d, sk.ownBlock = some d → d < V.heap.size := fun d e => by
    obtain ⟨cur, h1⟩ := ownsRow_type h.k.ow d e
    exact (Array.getElem?_eq_some_iff.1 h1).1
  have lw : ∀ d, d < lo → d ≠ G → d ≠ G ∧ ma ≠ .map (some d) ∧ sa.ownBlock ≠ some d := fun d hd hG => ⟨hG, fun e => by have := (a3 d e).2.2; omega, fun e => by have := ownsRow_blk h.a.ow d e; omega⟩
  refine ⟨h.k.frame k (fun e he => lw e.1 (h.k.lv e he).2.1 (h.k.lv e he).2.2) (fun d hd => ?_) ((hc 0 (by omega) (by omega)).trans h.k.gm) ((hc 1 (by omega) (by omega)).trans h.k.gs) g.gf, g, h.w.kept k (lw wb h.hw.1 h.hw.2), h.f.kept k (lw fb h.hf.1 h.hf.2.1), ownsRow_kept h.q k (fun b e => ?_), fun M' e e' => ?_, fun b e e' => ?_, h.hw, h.hf, ⟨h.hl.1, hl'⟩, fun j a b c d => (hc j c d).trans (h.rg j a b c d)⟩
  · rcases hd with h1 | h1
    · exact ⟨by have := (a2 d h1).2.2; have := h.k.hg; omega, fun e => h.dM d h1 e, (a2 d h1).2.1⟩
    · exact ⟨by have := ownsRow_blk h.k.ow d h1; have := h.k.hg; omega, fun e => (a3 d e).1 h1, fun e => h.dS d h1 e⟩
  · obtain ⟨x1, x2, x3, x4, x5⟩ := a1 b e
    exact ⟨by have := h.k.hg; omega, x2, x4⟩
  · cases e'
    rcases hM with hM | hM
    · exact h.dM M e hM
    · have := hmlt M e; omega
  · have eb : r = b := Option.some.inj e'
    subst eb
    rcases hr with hr | hr
    · exact h.dS r e hr
    · have := hslt r e; omega

/-- The closure that lets an alternative's body wait. -/
def afn (fb : Nat) : Value := .func (.func 38) #[] #[.pointer (some ⟨fb, 0, none⟩)]

set_option maxHeartbeats 2000000 in
set_option maxRecDepth 100000 in
/-- An alternative's body waits. -/
theorem i_waitA {lo G wb fb : Nat} {V : World} {KK AA Q : List (Nat × Nat)} {mk sk ma sa wv : Value} (h : St OK OA RG lo G wb fb V KK AA Q mk sk ma sa wv) (b o : Nat) (hq : Q.length ≤ 10000000) :
    Calls Try.prog 38 #[.pointer (some ⟨b, o, none⟩), .pointer (some ⟨fb, 0, none⟩)] V fun e V' => e = .returned (.tuple #[]) ∧ ∃ r cap, St OK OA RG lo G wb fb V' KK AA (Q ++ [(b, o + 2)]) mk sk ma sa (.slice (some ⟨r, 0, none⟩) (Q.length + 1) cap) ∧ Kept (fun d => wv.ownBlock ≠ some d ∧ d ≠ wb) V V' ∧ (wv.ownBlock = some r ∨ V.heap.size ≤ r) := by
  have c0 := h.f.cel 0 _ rfl
  have c1 : V.drew.cell? ⟨fb, 0, none⟩ = some (wfn wb) := c0
  have HW := hide (i_wait h (b, o + 2) hq)
  have HWD : Hid (Calls Try.prog 35 #[.pointer (some ⟨b, o + 2, none⟩), .pointer (some ⟨wb, 0, none⟩)] V.drew fun e V' => e = .returned (.tuple #[]) ∧ ∃ r cap, St OK OA RG lo G wb fb V' KK AA (Q ++ [(b, o + 2)]) mk sk ma sa (.slice (some ⟨r, 0, none⟩) (Q.length + 1) cap) ∧ Kept (fun d => wv.ownBlock ≠ some d ∧ d ≠ wb) V V' ∧ (wv.ownBlock = some r ∨ V.heap.size ≤ r)) :=
    (i_wait (h.kept (Kept.drew _ _)) (b, o + 2) hq).mono (by
      rintro e V' ⟨rfl, r, cap, g1, g2, g3⟩
      exact ⟨rfl, r, cap, g1, (Kept.drew _ _).trans g2, g3⟩)
  clear h hq
  unfold wfn at c0 c1
  go_enter Try.func38, Try.ntmps38
  go_upto_region 0 with fail
  go_region_with (first | (refine HW.out.mono ?_; rintro e v2 ⟨rfl, g1⟩; have HG := hide g1; clear g1) | (refine HWD.out.mono ?_; rintro e v2 ⟨rfl, g1⟩; have HG := hide g1; clear g1))
  all_goals
    go_wp2_with fail
    exact bodyPost_end (results_none rfl _ _ _) rfl ⟨rfl, HG.out⟩

/-- The bodies of a list of alternatives, by where they lie. -/
def altsAt (O : Nat → Nat) (b n : Nat) : List (Nat × Nat) := (List.range n).map (fun j => (b, O b + j * 9 + 2))
theorem altsAt_succ (O : Nat → Nat) (b n : Nat) : altsAt O b (n + 1) = altsAt O b n ++ [(b, O b + n * 9 + 2)] := by simp [altsAt, List.range_succ]
theorem altsAt_len (O : Nat → Nat) (b n : Nat) : (altsAt O b n).length = n := by simp [altsAt]

/-- What add of alternatives leaves. -/
def AdA (OK OA : Nat → Nat) (RG : Nat → Option Value) (lo G wb fb : Nat) (V : World) (KK AA Q : List (Nat × Nat)) (mk sk : Value) (V' : World) : Prop :=
  ∃ ma sa wv, St OK OA RG lo G wb fb V' KK AA Q mk sk ma sa wv ∧ Kept (fun d => d < lo ∧ d ≠ G ∧ d ≠ wb) V V'

set_option maxHeartbeats 4000000 in
set_option maxRecDepth 100000 in
theorem i_addA0 {lo G wb fb : Nat} {V : World} {KK AA Q : List (Nat × Nat)} {mk sk ma sa wv : Value} (h : St OK OA RG lo G wb fb V KK AA Q mk sk ma sa wv) (a : Option Addr) (cap : Nat) :
    Calls Try.prog 37 #[.pointer (some ⟨G, 4, none⟩), .slice a 0 cap, afn fb] V fun e V' => e = .returned (.tuple #[]) ∧ AdA OK OA RG lo G wb fb V KK AA Q mk sk V' := by
  have HF : Hid (AdA OK OA RG lo G wb fb V KK AA Q mk sk V) := ⟨ma, sa, wv, h, Kept.refl _ _⟩
  clear h
  go_enter Try.func37, Try.ntmps37
  go_wp2_with fail
  go_loopw [7] (fun s7 wr => s7 = .int .i64 0 ∧ wr = V) (fun _ _ => 0)
  case atStart => exact ⟨rfl, rfl⟩
  case round =>
    obtain ⟨rfl, hw⟩ := hrel
    obtain rfl : V = wr := hw.symm
    go_wp2_with fail
    exact bodyPost_end (results_none rfl _ _ _) rfl ⟨rfl, HF.out⟩

theorem i_putL {lo G wb fb : Nat} {V : World} {KK AA Q : List (Nat × Nat)} {mk sk ma sa wv : Value} {b j i : Nat} {s6 : Int} (hi : AA.length = i) (hs : (j = 0 ∧ s6 = -1) ∨ (0 < j ∧ s6 = i)) (h : St OK OA RG lo G wb fb V KK (upto AA b j) Q mk sk ma sa wv) (hb : ∀ e ∈ AA, e.1 ≠ b) (lb : LiveB V b ∧ b < lo ∧ b ≠ G ∧ b ≠ wb) (hl : i ≤ 10000000) (hj : j ≤ 10000000) :
    Calls Try.prog 57 #[.pointer (some ⟨G, 4, none⟩), .pointer (some ⟨b, OA b + j * 9, none⟩), .int .i64 s6] V fun e V' => e = .returned (.agg #[.int .i64 i, .int .i64 j]) ∧ ∃ M r cap, St OK OA RG lo G wb fb V' KK (AA ++ [(b, j + 1)]) Q mk sk (.map (some M)) (.slice (some ⟨r, 0, none⟩) (i + 1) cap) wv ∧ Kept (fun d => d ≠ G ∧ ma ≠ .map (some d) ∧ sa.ownBlock ≠ some d) V V' ∧ (ma = .map (some M) ∨ V.heap.size ≤ M) ∧ (sa.ownBlock = some r ∨ V.heap.size ≤ r) := by
  have hwb : ∀ n, ∀ e ∈ AA ++ [(b, n)], e.1 ≠ wb := fun n e he => by
    rcases List.mem_append.1 he with he | he
    · refine h.hl.2 e ?_
      unfold upto
      split
      · exact he
      · exact List.mem_append.2 (.inl he)
    · have : e = (b, n) := by simpa using he
      rw [this]
      exact lb.2.2.2
  rcases hs with ⟨rfl, rfl⟩ | ⟨h0, rfl⟩
  · have hk : A.GS OA lo G V AA AA ma sa A.zf := h.a
    have hz : OA b + 0 * 9 = OA b := rfl
    rw [hz]
    rcases hk.mp with ⟨h1, h2⟩ | ⟨M, h2, -, hM⟩
    · subst h2
      refine (A.i_putN hi hk hb ⟨lb.1, lb.2.1, lb.2.2.1⟩ hl).mono ?_
      rintro e V' ⟨M, r, cap, rfl, g1, g2, g3, g4, g5⟩
      have kk : Kept (fun d => d ≠ G ∧ Value.map none ≠ .map (some d) ∧ sa.ownBlock ≠ some d) V V' := g2.mono (fun d _ x => ⟨x.1, x.2.2⟩)
      exact ⟨rfl, M, r, cap, St.setA h g1 kk g3 (.inr g4) g5 (hwb 1), kk, .inr g4, g5⟩
    · subst h2
      refine (A.i_putA hi hk hb ⟨lb.1, lb.2.1, lb.2.2.1⟩ hl).mono ?_
      rintro e V' ⟨r, cap, rfl, g1, g2, g3, -, g5⟩
      have kk : Kept (fun d => d ≠ G ∧ Value.map (some M) ≠ .map (some d) ∧ sa.ownBlock ≠ some d) V V' := g2.mono (fun d _ x => ⟨x.1, fun e => x.2.1 (by rw [e]), x.2.2⟩)
      exact ⟨rfl, M, r, cap, St.setA h g1 kk g3 (.inl rfl) g5 (hwb 1), kk, .inl rfl, g5⟩
  · have hu : upto AA b j = AA ++ [(b, j)] := if_neg (by omega)
    rw [hu] at h
    have hk := h.a
    obtain ⟨r, cap, hsk, -, -, -⟩ := hk.slice (by simp)
    have hlen : (AA ++ [(b, j)]).length = i + 1 := by simp [hi]
    rw [hlen] at hsk
    subst hsk
    rcases hk.mp with ⟨h1, -⟩ | ⟨M, h2, -, hM⟩
    · simp at h1
    · subst h2
      refine (A.i_putB hi hk hb hl hj).mono ?_
      rintro e V' ⟨rfl, g1, g2⟩
      have gM : M ≠ G := by have := hk.hg; omega
      have gr : r ≠ G := by have := hk.hg; have := ownsRow_blk hk.ow r rfl; omega
      have kk : Kept (fun d => d ≠ G ∧ Value.map (some M) ≠ .map (some d) ∧ (Value.slice (some ⟨r, 0, none⟩) (i + 1) cap).ownBlock ≠ some d) V V' := g2.mono (fun d _ x => ⟨fun e => x.2.1 (by rw [e]), fun e => x.2.2 (by rw [e]; rfl)⟩)
      have hc : ∀ q, q ≠ 4 → q ≠ 5 → V'.cell? ⟨G, q, none⟩ = V.cell? ⟨G, q, none⟩ := fun q _ _ => g2.cell (p := ⟨G, q, none⟩) (by have := hk.hg; have := hk.hv; show G < _; omega) ⟨fun e => gM e.symm, fun e => gr e.symm⟩
      exact ⟨rfl, M, r, cap, St.setA h g1 kk hc (.inl rfl) (.inl rfl) (hwb _), kk, .inl rfl, .inl rfl⟩

end Go.Proofs.Ytfgmgbkiebeeoaa

namespace Go.Proofs.Ytfgmgbkiebeeoaa
open Go.RowKit Go.Joins
variable {OK OA : Nat → Nat} {RG : Nat → Option Value}

/-- A thing that is not there yet. -/
theorem St.missA {lo G wb fb : Nat} {V : World} {KK AA Q : List (Nat × Nat)} {mk sk ma sa wv : Value} {b j : Nat} (h : St OK OA RG lo G wb fb V KK (upto AA b j) Q mk sk ma sa wv) (hb : ∀ e ∈ AA, e.1 ≠ b) (lb : LiveB V b) :
    (Instr.lookup 68 ma (.pointer (some ⟨b, OA b + j * 9, none⟩)) true).run Try.prog V = .ok (.tuple #[.agg #[.int .i64 0, .int .i64 0], .bool false]) V := by
  rcases h.a.mp with ⟨-, h2⟩ | ⟨M, h2, hM, -⟩
  · subst h2
    exact MP.nilA (b, OA b + j * 9) true
  · subst h2
    refine MP.missA hM (fun p hp => ?_) (b, OA b + j * 9) lb ?_ true
    · obtain ⟨k, e, e1, e2, -⟩ := A.ents_mem 0 _ p hp
      rw [e2]
      exact (h.a.lv e (List.mem_of_getElem? e1)).1
    · unfold upto
      split
      · exact A.ents_new hb _
      · exact A.ents_next hb

/-- Behind the put and the wait of a round. -/
def PA (OK OA : Nat → Nat) (RG : Nat → Option Value) (lo G wb fb : Nat) (V : World) (KK AA Q : List (Nat × Nat)) (mk sk : Value) (b j i x : Nat) (W : World) : Prop :=
  ∃ M r cap wv, St OK OA RG lo G wb fb W KK (AA ++ [(b, j + 1)]) (Q ++ altsAt OA b (j + 1)) mk sk (.map (some M)) (.slice (some ⟨r, 0, none⟩) (i + 1) cap) wv ∧ Bx W x [.int .i64 i, .int .i64 j] ∧ (lo ≤ x ∧ M ≠ x ∧ r ≠ x ∧ wv.ownBlock ≠ some x ∧ mk ≠ .map (some x) ∧ sk.ownBlock ≠ some x) ∧ Kept (fun d => d < lo ∧ d ≠ G ∧ d ≠ wb) V W

theorem PA.kept {lo G wb fb : Nat} {V : World} {KK AA Q : List (Nat × Nat)} {mk sk : Value} {b j i x : Nat} {W W' : World} (h : PA OK OA RG lo G wb fb V KK AA Q mk sk b j i x W) (k : Kept (fun _ => True) W W') : PA OK OA RG lo G wb fb V KK AA Q mk sk b j i x W' := by
  obtain ⟨M, r, cap, wv, h1, h2, h3, h4⟩ := h
  exact ⟨M, r, cap, wv, h1.kept k, h2.kept k trivial, h3, h4.trans (k.mono (fun _ _ _ => trivial))⟩

theorem PA.put {lo G wb fb : Nat} {V : World} {KK AA Q : List (Nat × Nat)} {mk sk : Value} {b j i x : Nat} {W : World} (h : PA OK OA RG lo G wb fb V KK AA Q mk sk b j i x W) : PA OK OA RG lo G wb fb V KK AA Q mk sk b j i x ((W.setCell ⟨x, 0, none⟩ (.int .i64 i)).setCell ⟨x, 1, none⟩ (.int .i64 j)) := by
  obtain ⟨M, r, cap, wv, h1, h2, h3, h4⟩ := h
  have k5 : Kept (fun d => d ≠ x) W ((W.setCell ⟨x, 0, none⟩ (.int .i64 i)).setCell ⟨x, 1, none⟩ (.int .i64 j)) := ((Kept.refl _ _).set (by simp)).set (by simp)
  refine ⟨M, r, cap, wv, h1.off k5 h3.1 h3.2.2.2.2.1 (fun e => h3.2.1 (by cases e; rfl)) h3.2.2.2.2.2 (fun e => h3.2.2.1 (Option.some.inj e)) h3.2.2.2.1, ?_, h3, h4.trans (k5.mono (fun d _ hd => by have := hd.1; have := h3.1; omega))⟩
  exact (h2.put 0 (.int .i64 i) (by simp)).put 1 (.int .i64 j) (by simp)

/-- What the put of a round leaves, its box written. -/
theorem put_roundA {lo G wb fb : Nat} {V v1 v2 : World} {KK AA Q : List (Nat × Nat)} {mk sk ma sa wv : Value} {b j i x M r cap : Nat} (h : St OK OA RG lo G wb fb v1 KK (upto AA b j) Q mk sk ma sa wv) (hx : lo ≤ x) (hxl : x < v1.heap.size) (hf : mk ≠ .map (some x) ∧ ma ≠ .map (some x) ∧ sk.ownBlock ≠ some x ∧ sa.ownBlock ≠ some x ∧ wv.ownBlock ≠ some x) (bx : Bx v1 x [.int .i64 0, .int .i64 0]) (hk : Kept (fun d => d < lo ∧ d ≠ G ∧ d ≠ wb) V v1)
    (g1 : St OK OA RG lo G wb fb v2 KK (AA ++ [(b, j + 1)]) Q mk sk (.map (some M)) (.slice (some ⟨r, 0, none⟩) (i + 1) cap) wv) (g2 : Kept (fun d => d ≠ G ∧ ma ≠ .map (some d) ∧ sa.ownBlock ≠ some d) v1 v2) (g3 : ma = .map (some M) ∨ v1.heap.size ≤ M) (g4 : sa.ownBlock = some r ∨ v1.heap.size ≤ r) :
    Bx v2 x [.int .i64 0, .int .i64 0] ∧ St OK OA RG lo G wb fb ((v2.setCell ⟨x, 0, none⟩ (.int .i64 i)).setCell ⟨x, 1, none⟩ (.int .i64 j)) KK (AA ++ [(b, j + 1)]) Q mk sk (.map (some M)) (.slice (some ⟨r, 0, none⟩) (i + 1) cap) wv ∧ Bx ((v2.setCell ⟨x, 0, none⟩ (.int .i64 i)).setCell ⟨x, 1, none⟩ (.int .i64 j)) x [.int .i64 i, .int .i64 j] ∧ (M ≠ x ∧ r ≠ x) ∧ Kept (fun d => d < lo ∧ d ≠ G ∧ d ≠ wb) V ((v2.setCell ⟨x, 0, none⟩ (.int .i64 i)).setCell ⟨x, 1, none⟩ (.int .i64 j)) ∧ v1.heap.size ≤ ((v2.setCell ⟨x, 0, none⟩ (.int .i64 i)).setCell ⟨x, 1, none⟩ (.int .i64 j)).heap.size := by
  have hG := h.k.hg
  have k5 : Kept (fun d => d ≠ x) v2 ((v2.setCell ⟨x, 0, none⟩ (.int .i64 i)).setCell ⟨x, 1, none⟩ (.int .i64 j)) := ((Kept.refl _ _).set (by simp)).set (by simp)
  have eM : M ≠ x := fun e => by
    rcases g3 with g3 | g3
    · exact hf.2.1 (by rw [g3, e])
    · omega
  have er : r ≠ x := fun e => by
    rcases g4 with g4 | g4
    · exact hf.2.2.2.1 (by rw [g4, e])
    · omega
  have b2 := bx.kept g2 ⟨by omega, hf.2.1, hf.2.2.2.1⟩
  have low : ∀ d, d < lo → d ≠ G → d ≠ G ∧ ma ≠ .map (some d) ∧ sa.ownBlock ≠ some d := fun d hd hg => ⟨hg, fun e => by have := (h.apart.2.2 d e).2.2; omega, fun e => by have := ownsRow_blk h.a.ow d e; omega⟩
  refine ⟨b2, g1.off k5 hx hf.1 (fun e => eM (by cases e; rfl)) hf.2.2.1 (fun e => er (Option.some.inj e)) hf.2.2.2.2, (b2.put 0 (.int .i64 i) (by simp)).put 1 (.int .i64 j) (by simp), ⟨eM, er⟩, (hk.trans (g2.mono (fun d _ hd => low d hd.1 hd.2.1))).trans (k5.mono (fun d _ hd => by have := hd.1; omega)), Nat.le_trans g2.size k5.size⟩

/-- What the wait of a round leaves. -/
theorem wait_roundA {lo G wb fb : Nat} {V v3 v4 : World} {KK AA Q : List (Nat × Nat)} {mk sk wv : Value} {b j i x M r cap r' cap' n' : Nat} (h : St OK OA RG lo G wb fb v3 KK (AA ++ [(b, j + 1)]) (Q ++ altsAt OA b j) mk sk (.map (some M)) (.slice (some ⟨r, 0, none⟩) (i + 1) cap) wv) (hx : lo ≤ x) (hxl : x < v3.heap.size) (hf : mk ≠ .map (some x) ∧ sk.ownBlock ≠ some x ∧ wv.ownBlock ≠ some x) (hm : M ≠ x ∧ r ≠ x) (bx : Bx v3 x [.int .i64 i, .int .i64 j]) (hk : Kept (fun d => d < lo ∧ d ≠ G ∧ d ≠ wb) V v3)
    (g1 : St OK OA RG lo G wb fb v4 KK (AA ++ [(b, j + 1)]) (Q ++ altsAt OA b j ++ [(b, OA b + j * 9 + 2)]) mk sk (.map (some M)) (.slice (some ⟨r, 0, none⟩) (i + 1) cap) (.slice (some ⟨r', 0, none⟩) n' cap')) (g2 : Kept (fun d => wv.ownBlock ≠ some d ∧ d ≠ wb) v3 v4) (g3 : wv.ownBlock = some r' ∨ v3.heap.size ≤ r') : PA OK OA RG lo G wb fb V KK AA Q mk sk b j i x v4 := by
  refine ⟨M, r, cap, _, by rw [altsAt_succ, ← List.append_assoc]; exact g1, bx.kept g2 ⟨hf.2.2, by have := h.hw.1; omega⟩, ⟨hx, hm.1, hm.2, fun e => ?_, hf.1, hf.2.1⟩, hk.trans (g2.mono (fun d _ hd => ⟨fun e => by have := ownsRow_blk h.q d e; omega, hd.2.2⟩))⟩
  have : r' = x := Option.some.inj e
  rcases g3 with g3 | g3
  · exact hf.2.2 (by rw [g3, this])
  · omega

theorem PA.bx {lo G wb fb : Nat} {V : World} {KK AA Q : List (Nat × Nat)} {mk sk : Value} {b j i x : Nat} {W : World} (h : PA OK OA RG lo G wb fb V KK AA Q mk sk b j i x W) : Bx W x [.int .i64 i, .int .i64 j] := by
  obtain ⟨M, r, cap, wv, h1, h2, h3, h4⟩ := h
  exact h2

theorem PA.whole {lo G wb fb : Nat} {V : World} {KK AA Q : List (Nat × Nat)} {mk sk : Value} {b j i x : Nat} {W : World} (h : PA OK OA RG lo G wb fb V KK AA Q mk sk b j i x W) (hi : AA.length = i) (hl : i < 10000000) :
    Calls Try.prog 58 #[.pointer (some ⟨G, 4, none⟩), .agg #[.int .i64 i, .int .i64 j]] W fun e V' => e = .returned (.agg #[.int .i64 i, .int .i64 j]) ∧ PA OK OA RG lo G wb fb V KK AA Q mk sk b j i x V' := by
  obtain ⟨M, r, cap, wv, h1, h2, h3, h4⟩ := id h
  refine (A.i_whole h1.a i j (by simp [hi]) (by simp [hi]; omega)).mono ?_
  rintro e V' ⟨rfl, k⟩
  exact ⟨rfl, h.kept k⟩

/-- What the end of a round reads. -/
theorem PA.end {lo G wb fb : Nat} {V : World} {KK AA Q : List (Nat × Nat)} {mk sk : Value} {b j i x : Nat} {W : World} (h : PA OK OA RG lo G wb fb V KK AA Q mk sk b j i x W) (hi : AA.length = i) :
    ∃ r cap, i < cap ∧ ∀ W', Kept (fun _ => True) W W' → (W'.cell? ⟨G, 5, none⟩ = some (.slice (some ⟨r, 0, none⟩) (i + 1) cap) ∧ W'.cell? ⟨r, i * 5 + 3, none⟩ = some (.int .i64 ((j : Int) + 1)) ∧ W'.cell? ⟨x, 1, none⟩ = some (.int .i64 j)) ∧ ∃ ma sa wv, St OK OA RG lo G wb fb W' KK (upto AA b (j + 1)) (Q ++ altsAt OA b (j + 1)) mk sk ma sa wv ∧ Kept (fun d => d < lo ∧ d ≠ G ∧ d ≠ wb) V W' := by
  obtain ⟨M, r, cap, wv, h1, h2, h3, h4⟩ := h
  have hc : i < cap := by
    have ho := h1.a.ow
    rw [List.length_append, hi] at ho
    have := ownsRow_le ho
    omega
  refine ⟨r, cap, hc, fun W' k => ?_⟩
  have h1' := h1.kept k
  have ho := h1'.a.ow
  rw [List.length_append, hi] at ho
  have he : (AA ++ [(b, j + 1)])[i]? = some (b, j + 1) := by rw [List.getElem?_append_right (by omega)]; simp [hi]
  refine ⟨⟨h1'.a.gs, ?_, (h2.kept k trivial).cel 1 _ rfl⟩, _, _, _, by rw [upto_succ]; exact h1', h4.trans (k.mono (fun _ _ _ => trivial))⟩
  have := ownsRow_cell ho (i * 5 + 3) _ (A.strs_get A.zf he (j := 3) rfl)
  rw [this, Int.natCast_add]
  rfl

/-- The state of add at a thing. -/
def BR1 (OK OA : Nat → Nat) (RG : Nat → Option Value) (lo G wb fb : Nat) (V : World) (KK AA Q : List (Nat × Nat)) (mk sk : Value) (b j : Nat) (W : World) : Prop :=
  ∃ ma sa wv, St OK OA RG lo G wb fb W KK (upto AA b j) (Q ++ altsAt OA b j) mk sk ma sa wv ∧ Kept (fun d => d < lo ∧ d ≠ G ∧ d ≠ wb) V W

set_option maxHeartbeats 8000000 in
set_option maxRecDepth 100000 in
theorem i_addA {lo G wb fb : Nat} {V : World} {KK AA Q : List (Nat × Nat)} {mk sk ma sa wv : Value} {b n cap i : Nat} (hi : AA.length = i) (h : St OK OA RG lo G wb fb V KK AA Q mk sk ma sa wv) (hb : ∀ e ∈ AA, e.1 ≠ b) (lb : LiveB V b ∧ b < lo ∧ b ≠ G ∧ b ≠ wb) (hl : i < 10000000) (hn : n ≤ 10000000) (hq : Q.length + n ≤ 10000000) (hcap : n ≤ cap) :
    Calls Try.prog 37 #[.pointer (some ⟨G, 4, none⟩), .slice (some ⟨b, OA b, none⟩) n cap, afn fb] V fun e V' => e = .returned (.tuple #[]) ∧ AdA OK OA RG lo G wb fb V KK (upto AA b n) (Q ++ altsAt OA b n) mk sk V' := by
  have HA0 : Hid (BR1 OK OA RG lo G wb fb V KK AA Q mk sk b 0 V) := ⟨ma, sa, wv, by rw [show altsAt OA b 0 = [] from rfl, List.append_nil]; exact h, Kept.refl _ _⟩
  have HB := hide hb
  have HLB := hide lb
  have HI := hide hi
  have HQ := hide hq
  clear h hb lb hi hq
  go_enter Try.func37, Try.ntmps37
  go_wp2_with fail
  go_loopw [6, 7] (fun s6 s7 wr => ∃ (j : Nat) (s : Int), s7 = .int .i64 j ∧ s6 = .int .i64 s ∧ j ≤ n ∧ ((j = 0 ∧ s = -1) ∨ (0 < j ∧ s = i)) ∧ Hid (BR1 OK OA RG lo G wb fb V KK AA Q mk sk b j wr)) (fun _ s7 _ => n - (intOf s7).toNat)
  case atStart => exact ⟨0, -1, rfl, rfl, Nat.zero_le _, .inl ⟨rfl, rfl⟩, HA0⟩
  case round =>
    obtain ⟨j, s, rfl, rfl, hjn, hs, har⟩ := hrel
    have HS := hide hs
    clear hs
    by_cases hj : j < n
    · have hjj : (j : Int) < n := by omega
      have hjc : j < cap := by omega
      obtain ⟨ma1, sa1, wv1, hst, hk⟩ := har.out
      clear har
      have HST := hide hst
      have HK := hide hk
      have HL1 : Hid (LiveB wr b) := HLB.out.1.kept hk HLB.out.1.lt HLB.out.2
      clear hst hk
      have HFA : Hid (∀ V', Kept (fun _ => True) wr V' → V'.cell? ⟨G, 4, none⟩ = some ma1 ∧ (Instr.lookup 68 ma1 (.pointer (some ⟨b, OA b + j * 9, none⟩)) true).run Try.prog V' = .ok (.tuple #[.agg #[.int .i64 0, .int .i64 0], .bool false]) V') := fun V' k => by
        have h' := HST.out.kept k
        exact ⟨h'.a.gm, h'.missA HB.out (HL1.out.all k)⟩
      have k0 := HFA.out wr (Kept.refl _ _)
      have k1 := HFA.out wr.drew (Kept.drew _ _)
      have k2 := HFA.out (wr.alloc (.cells #[.int .i64 0, .int .i64 0] 116)) (Kept.alloc _ _ _)
      have k3 := HFA.out (wr.alloc (.cells #[.int .i64 0, .int .i64 0] 116)).drew ((Kept.alloc _ _ _).trans (Kept.drew _ _))
      go_upto_region 3 with fail
      go_cut [8, 9] (fun s8 s9 wx => ∃ x, s8 = .pointer (some ⟨x, 0, none⟩) ∧ s9 = .bool false ∧ wr.heap.size ≤ x ∧ Bx wx x [.int .i64 0, .int .i64 0] ∧ Kept (fun _ => True) wr wx)
      case first =>
        go_region
        all_goals
          go_wp2_with fail
          go_meet
          case rel => exact ⟨_, rfl, rfl, Nat.le_refl _, (Bx.new _ _ _).kept (Kept.drew (fun _ => True) _) trivial, (Kept.alloc _ _ _).trans (Kept.drew _ _)⟩
      case rest =>
      obtain ⟨x, rfl, rfl, hx, hbx, hcb⟩ := hcut
      rename World => v1
      have hfr := HST.out.fresh hx
      have hxlo : lo ≤ x := Nat.le_trans HST.out.k.hv hx
      have HXL : Hid (lo ≤ x ∧ x < v1.heap.size) := ⟨hxlo, hbx.lt⟩
      have HFR := hide hfr
      have HBX := hide hbx
      have HS1 := hide (HST.out.kept hcb)
      have HK1 := hide (HK.out.trans (hcb.mono (fun _ _ _ => trivial)))
      have HP := hide (i_putL HI.out HS.out HS1.out HB.out ⟨HL1.out.all hcb, HLB.out.2⟩ (Nat.le_of_lt hl) (by omega))
      clear hfr hbx hcb hx hxlo k0 k1 k2 k3 HFA
      go_upto_region 5 with fail
      go_upto_region 6 with (go_at_call 57; refine HP.out.mono ?_; rintro e v2 ⟨rfl, M, r, cap1, g1, g2, g3, g4⟩; have HPR := hide (put_roundA HS1.out HXL.out.1 HXL.out.2 HFR.out HBX.out HK1.out g1 g2 g3 g4); have c0 := HPR.out.1.cel 0 _ rfl; have c1 := HPR.out.1.cel 1 _ rfl; have c2 := HPR.out.1.live 0; have c3 := HPR.out.1.live 1; clear g1 g2 g3 g4)
      have HQL : Hid ((Q ++ altsAt OA b j).length ≤ 10000000) := by unfold Hid; rw [List.length_append, altsAt_len]; have := HQ.out; omega
      obtain ⟨v3, hv3⟩ : ∃ v3, (v2.setCell ⟨x, 0, none⟩ (.int .i64 i)).setCell ⟨x, 1, none⟩ (.int .i64 j) = v3 := ⟨_, rfl⟩
      have hpr := HPR.out.2
      rw [hv3] at hpr
      rw [hv3]
      clear HPR c0 c1 c2 c3 hv3
      have HPR := hide hpr
      clear hpr HP HBX HS1 HK1
      have HW := hide (i_waitA HPR.out.1 b (OA b + j * 9) HQL.out)
      go_upto_region 7 with (refine HW.out.mono ?_; rintro e v4 ⟨rfl, r', cap', g1, g2, g3⟩; have HPW := hide (wait_roundA HPR.out.1 HXL.out.1 (Nat.lt_of_lt_of_le HXL.out.2 HPR.out.2.2.2.2) ⟨HFR.out.1, HFR.out.2.2.1, HFR.out.2.2.2.2⟩ HPR.out.2.2.1 HPR.out.2.1 HPR.out.2.2.2.1 g1 g2 g3); clear g1 g2 g3)
      clear HW HPR
      have c0 := HPW.out.bx.cel 0 _ rfl
      have c1 := HPW.out.bx.cel 1 _ rfl
      have HWH := hide (HPW.out.whole HI.out (by omega))
      go_upto_region 8 with (go_at_call 58; refine HWH.out.mono ?_; rintro e v5 ⟨rfl, g1⟩; have HP5 := hide g1; clear g1; have d0 := HP5.out.bx.cel 0 _ rfl; have d1 := HP5.out.bx.cel 1 _ rfl; have d2 := HP5.out.bx.live 0; have d3 := HP5.out.bx.live 1)
      clear c0 c1 HWH HPW
      obtain ⟨v6, hv6⟩ : ∃ v6, (v5.setCell ⟨x, 0, none⟩ (.int .i64 i)).setCell ⟨x, 1, none⟩ (.int .i64 j) = v6 := ⟨_, rfl⟩
      have hp6 := HP5.out.put
      rw [hv6] at hp6
      rw [hv6]
      have HP6 := hide hp6
      clear HP5 d0 d1 d2 d3 hv6 hp6
      have e0 := HP6.out.bx.cel 0 _ rfl
      have e1 := HP6.out.bx.cel 1 _ rfl
      go_cut [48] (fun s wx => s = .bool false ∧ wx = v6)
      case first =>
        rcases HS.out with ⟨rfl, rfl⟩ | ⟨h0, rfl⟩
        · go_wp2_with fail
          go_meet
          case rel => exact ⟨rfl, rfl⟩
        · have hii : (i : Int) ≥ 0 := by omega
          go_wp2_with fail
          go_meet
          case rel => exact ⟨by simp, rfl⟩
      case rest =>
      obtain ⟨rfl, hw⟩ := hcut
      have hw2 := hw.symm
      subst hw2
      go_upto_region 12 with fail
      obtain ⟨r2, cap2, hic2, hen⟩ := HP6.out.end HI.out
      have HEN := hide hen
      clear hen e0 e1
      have k0 := (HEN.out v6 (Kept.refl _ _)).1
      have k1 := (HEN.out v6.drew (Kept.drew _ _)).1
      have HSU : Hid ((j : Int) + ((j : Int) + 1 - (j : Int)) = ((j + 1 : Nat) : Int)) := by unfold Hid; omega
      go_region
      all_goals
        go_wp2_with fail
        go_simp
        go_roundw
        case rel => exact ⟨j + 1, HSU.out, by omega, by omega, (HEN.out _ (by first | exact Kept.drew _ _ | exact Kept.refl _ _)).2⟩
        case measure => simp [intOf]; omega
    · obtain rfl : j = n := by omega
      have hjj : ¬ (j : Int) < j := by omega
      have HF : Hid (AdA OK OA RG lo G wb fb V KK (upto AA b j) (Q ++ altsAt OA b j) mk sk wr) := har.out
      clear har
      go_wp2_with fail
      exact bodyPost_end (results_none rfl _ _ _) rfl ⟨rfl, HF.out⟩

end Go.Proofs.Ytfgmgbkiebeeoaa
