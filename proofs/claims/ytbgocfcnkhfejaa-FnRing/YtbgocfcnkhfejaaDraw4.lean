import Derived.Test.YtbgocfcnkhfejaaDraw3
namespace Go.Proofs.Ytbgocfcnkhfejaa
open Go.RowKit Go.Joins

theorem half41 (W : World) : Half (W.alloc (.cells ((madeCells #[.int .u32 0] 41).setIfInBounds 40 (.int .u32 1)) 60)) W.heap.size 41 41 (upd (fun _ => 0) 40 1) := by
  refine ⟨_, heap_alloc_new _ _, by simp [size_madeCells], fun i hi => ?_⟩
  by_cases e : i = 40
  · subst e
    rw [Array.getElem?_setIfInBounds_self_of_lt (by rw [size_madeCells]; omega)]; simp [upd]
  · rw [Array.getElem?_setIfInBounds_ne (by omega)]
    simp only [upd, if_neg e]
    simp [madeCells, hi, Nat.mod_one]

theorem wpList_appendG {ops : Array Oper} {rest : List Oper} {o : Oper} {a : Act} {w : World} {Q : Exit → Act → World → Prop} (s x : Operand) (B b : Nat) (v : Value) (n m c : Nat) (f g : Nat → Nat)
    (hown : Row B w v n f) (hL : ∀ i, i < m → w.cell? ⟨b, i, none⟩ = some (.int .u32 (g i))) (hb : n + m ≤ 1073741824) (hbase : B ≤ w.heap.size)
    (hgd : o.guard = none) (ho : o.op = .call { callee := .builtin .append, args := #[s, x], argTypes := #[23, 23] }) (hs : a.eval s = v) (hx : a.eval x = .slice (some ⟨b, 0, none⟩) m c)
    (h : ∀ v' w', Row B w' v' (n + m) (fun i => if i < n then f i else g (i - n)) → w.grownBy w' v.ownBlock → wpList Try.prog ops Q rest (a.put o.dst v') w') : wpList Try.prog ops Q (o :: rest) a w := by
  obtain ⟨i0, hi, hz0, hz1, hz2⟩ := info_parts Try.info60
  refine wpList_append_own w hgd s x 23 ho B 60 i0 (.int .u32 0) 1 4 Try.underlying23 hi hz0 hz1 hz2 rfl (by decide) v n _ hs hown ⟨b, 0, none⟩ m c (U32s m g) hx (by rw [U32s_length]; omega) ?_ ?_ (by unfold maxLen; omega) (by omega) hbase ?_
  · intro j u hj
    have hjm : j < m := by have := (List.getElem?_eq_some_iff.1 hj).1; rwa [U32s_length] at this
    rw [U32s_get _ _ _ hjm] at hj
    rw [← hj, addAt, Nat.zero_add]
    exact hL j hjm
  · intro u hu
    simp only [U32s, List.mem_map] at hu
    obtain ⟨i, _, rfl⟩ := hu
    rfl
  · intro v' w' h5 h6 _
    rw [U32s_app] at h5
    exact h v' w' h5 h6

theorem one_cell (W : World) (i : Nat) (hi : i < 1) : (W.alloc (.cells #[.int .u32 0] 60)).cell? ⟨W.heap.size, i, none⟩ = some (.int .u32 (((fun _ => 0) i : Nat) : Int)) := by
  obtain rfl : i = 0 := by omega
  simp

/-- Of the blocks that were there only p and the slice's own have changed. -/
structure Al (p : Nat) (v : Value) (w w' : World) : Prop where
  os : w'.os = w.os
  tape : w'.tape = w.tape
  output : w'.output = w.output
  size : w.heap.size ≤ w'.heap.size
  block : ∀ b, b < w.heap.size → b ≠ p → v.ownBlock ≠ some b → w'.heap[b]? = w.heap[b]?

theorem Dr.al {p w w'} (h : Dr p w w') (v : Value) : Al p v w w' := ⟨h.bel.os, h.bel.tape, h.bel.output, h.size, fun _ h1 h2 _ => h.eq h1 h2⟩
theorem Al.trans {p v a b c} (h : Al p v a b) (k : Al p v b c) : Al p v a c :=
  ⟨k.os.trans h.os, k.tape.trans h.tape, k.output.trans h.output, Nat.le_trans h.size k.size, fun x h1 h2 h3 => (k.block x (by have := h.size; omega) h2 h3).trans (h.block x h1 h2 h3)⟩
theorem Al.grown {p v w w'} (h : w.grownBy w' v.ownBlock) : Al p v w w' := ⟨h.os, h.tape, h.output, h.size, fun b h1 _ h3 => h.block b h1 (fun e => h3 e.symm)⟩
theorem Al.below {p v w w' B} (h : Below B w w') (hB : w.heap.size ≤ B) : Al p v w w' := ⟨h.os, h.tape, h.output, h.size, fun b h1 _ _ => h.block b (by omega)⟩
theorem Al.up {p v w w1 w2 B} (h : Al p v w w1) (hb : Below B w1 w2) (hB : w.heap.size ≤ B) : Al p v w w2 :=
  ⟨hb.os.trans h.os, hb.tape.trans h.tape, hb.output.trans h.output, Nat.le_trans h.size hb.size, fun b h1 h2 h3 => (hb.block b (by omega)).trans (h.block b h1 h2 h3)⟩

theorem Row.ne {B w v n f b x} (h : Row B w v n f) (hn : 0 < n) (hc : w.cell? ⟨b, 0, none⟩ = some x) (hx : ∀ z, x ≠ .int .u32 z) : v.ownBlock ≠ some b := by
  obtain ⟨h1, h2⟩ := h
  rcases h2 with ⟨rfl, rfl⟩ | ⟨g, cap, cur, rfl, hb, hg, hn', hc', hs, ht⟩
  · intro e; cases e
  · intro e
    have : g = b := by simpa [Value.ownBlock] using e
    subst this
    rw [cell_of_block hg] at hc
    have e2 := congrArg (fun l => l[0]?) ht
    simp only [U32s_get _ _ _ hn] at e2
    rw [List.getElem?_take, if_pos (by omega)] at e2
    rw [Array.getElem?_toList] at e2
    rw [e2] at hc
    exact hx _ (Option.some.inj hc).symm

/-- A slice that begins where its block begins. -/
def Z0 (v : Value) : Prop := ∀ ad n c, v = .slice (some ad) n c → ad.off = 0
theorem Row.z0 {B w v n f} (h : Row B w v n f) : Z0 v := by
  obtain ⟨h1, h2⟩ := h
  rcases h2 with ⟨rfl, rfl⟩ | ⟨g, cap, cur, rfl, hb, hg, hn', hc', hs, ht⟩
  · intro ad n c e; cases e
  · intro ad n c e
    simp only [Value.slice.injEq, Option.some.injEq] at e
    rw [← e.1]
theorem Own.ne {B w v n f b x} (h : Own B w v n f) (hz : Z0 v) (hn : 0 < n) (hc : w.cell? ⟨b, 0, none⟩ = some x) (hx : ∀ z, x ≠ .int .u32 z) : v.ownBlock ≠ some b := by
  obtain ⟨a, c, rfl, h1, h2, h3, h4⟩ := h
  obtain ⟨b', off, rfl, h5, h6, h7⟩ := h4 hn
  intro e
  have eb : b' = b := by simpa [Value.ownBlock] using e
  subst eb
  have e0 : off = 0 := hz _ _ _ rfl
  subst e0
  have h8 := h6 0 hn
  rw [hc] at h8
  exact hx _ (Option.some.inj h8)

/-- What is known of the bent number while the boxes are written. -/
structure Tri (p k t B : Nat) (v v' : Value) (n' : Nat) (f' : Nat → Nat) (w wx : World) : Prop where
  own : Own B wx v' n' f'
  src : Src wx p k t
  al : Al p v w wx
theorem Tri.set {p k t B v v' n' f' w wx} (h : Tri p k t B v v' n' f' w wx) (q i : Nat) (u : Value) (hq : w.heap.size ≤ q) (hp : p < w.heap.size) (hne : 0 < n' → v'.ownBlock ≠ some q) : Tri p k t B v v' n' f' w (wx.setCell ⟨q, i, none⟩ u) :=
  have hb : Below w.heap.size wx (wx.setCell ⟨q, i, none⟩ u) := (Below.refl _ _).setCell (by exact hq) _
  ⟨h.own.setNe _ _ hne, h.src.up hb hp, h.al.up hb (Nat.le_refl _)⟩

set_option maxHeartbeats 2000000 in
set_option maxRecDepth 100000 in
theorem bendBig_any (p k t B : Nat) (m : Bool) (v : Value) (n : Nat) (f : Nat → Nat) (w : World) (hS : Src w p k t) (hk : k ≤ 2000000) (ht : t < 60000) (hrow : Row B w v n f) (hf : ∀ j, j < n → f j < 4294967296) (hn : n ≤ 40) (hpB : p < B) (hB : B ≤ w.heap.size) :
    Calls Try.prog 90 #[.pointer (some ⟨p, 0, none⟩), .agg #[.bool m, v]] w fun e w' => ∃ (m' : Bool) (v' : Value) (n' : Nat) (f' : Nat → Nat), e = .returned (.agg #[.bool m', v']) ∧ Own B w' v' n' f' ∧ n' ≤ 41 ∧ Z0 v' ∧ Src w' p k (t + 1) ∧ Al p v w w' := by
  have hp := hS.lt
  obtain ⟨a, c, rfl, -⟩ := id (hrow.own hf)
  have hb0 := below_alloc2 w (.cells #[.bool m, .slice a n c] 25) (.cells #[.bool false, .slice none 0 0] 25)
  have hS0 := hS.below hb0
  have hx0 := (Bx.start w (.bool m) (.slice a n c) 25).next (below_alloc1 _ (.cells #[.bool false, .slice none 0 0] 25))
  have hy0 := Bx.start (w.alloc (.cells #[.bool m, .slice a n c] 25)) (.bool false) (.slice none 0 0) 25
  have hr0 := (hrow.alloc (.cells #[.bool m, .slice a n c] 25)).alloc (.cells #[.bool false, .slice none 0 0] 25)
  simp only [World.size_alloc] at hy0
  have hlt := hrow.lt
  clear hrow
  go_enter Try.func90, Try.ntmps90
  go_wp2_with fail
  refine (next_any p k t 4 _ hS0 hk (by omega) (by decide) (by decide)).mono ?_
  rintro e w1 ⟨r1, hr1, rfl, hS1, ho1⟩
  have hd1 := Dr.only ho1
  have hx1 := hx0.dr hd1 (by omega)
  have hy1 := hy0.dr hd1 (by omega)
  have hrow1 := hr0.dr hd1 hpB
  have hz1 := hd1.size
  have hal : Al p (.slice a n c) w w1 := (Al.below hb0 (Nat.le_refl _)).trans (hd1.al _)
  simp only [World.size_alloc] at hz1
  clear hS hS0 hx0 hy0 hr0 hb0 ho1 hd1
  have hne : ∀ x, w.heap.size ≤ x → some x ≠ (Value.slice a n c).ownBlock := fun x hx e => by have := (hlt x e.symm).2; omega
  have HF := hide hf
  have HNE := hide hne
  have HLT := hide hlt
  clear hf hne hlt
  match r1, hr1 with
  | 0, _ =>
    have KEY : ∀ v' w', Row B w' v' (n + 1) (fun i => if i < n then f i else (fun _ => 0) (i - n)) → (w1.alloc (.cells #[.int .u32 0] 60)).grownBy w' (Value.slice a n c).ownBlock → ∃ a2 c2, v' = .slice a2 (n + 1) c2 ∧ Bx w' w.heap.size (.bool m) (.slice a n c) ∧ Bx w' (w.heap.size + 1) (.bool false) (.slice none 0 0) ∧ Tri p k (t + 1) B (.slice a n c) v' (n + 1) (fun i => if i < n then f i else 0) w w' ∧ v'.ownBlock ≠ some w.heap.size ∧ v'.ownBlock ≠ some (w.heap.size + 1) ∧ Z0 v' := by
      intro v' w' hr hg
      have hx2 := (hx1.next (below_alloc1 w1 (.cells #[.int .u32 0] 60))).keep (hg.block _ (by simp only [World.size_alloc]; omega) (HNE.out _ (Nat.le_refl _))) hg.size
      have hy2 := (hy1.next (below_alloc1 w1 (.cells #[.int .u32 0] 60))).keep (hg.block _ (by simp only [World.size_alloc]; omega) (HNE.out _ (by omega))) hg.size
      have ho2 := hr.own (fun j hj => by (dsimp only; split; exact HF.out j (by omega); omega))
      obtain ⟨a2, c2, rfl, -⟩ := id ho2
      have hb2 : Below B (w1.alloc (.cells #[.int .u32 0] 60)) w' := ⟨hg.os, hg.tape, hg.output, hg.size, fun x hx => hg.block x (by simp only [World.size_alloc]; omega) (fun e => by have := (HLT.out x e.symm).1; omega)⟩
      exact ⟨a2, c2, rfl, hx2, hy2, ⟨ho2, (hS1.below (below_alloc1 _ _)).up hb2 hpB, (hal.up (below_alloc1 w1 _) (by omega)).trans (Al.grown hg)⟩, hr.ne (by omega) hx2.c0 (fun _ e => by cases e), hr.ne (by omega) hy2.c0 (fun _ e => by cases e), hr.z0⟩
    obtain ⟨c0, c1, f0, f1, lt⟩ := id hx1
    go_wp2_with (at_builtin; (with_reducible refine wpList_appendG (.tmp 10) (.tmp 11) B w1.heap.size _ n 1 1 f (fun _ => 0) (hrow1.alloc _) (fun i hi => one_cell w1 i hi) ?_ ?_ ?_ ?_ ?_ ?_ ?_); omega; (simp; omega); rfl; rfl; rfl; rfl; intro v' w' hr hg; obtain ⟨a2, c2', rfl, hx2, hy2, htri, q1, q2, z2⟩ := KEY v' w' hr hg; obtain ⟨c0, c1, f0, f1, lt⟩ := id hx2; obtain ⟨d0, d1, e0, e1, lt'⟩ := id hy2)
    refine bodyPost_ret (v := .agg #[.bool m, .slice a2 (n + 1) c2']) (by simp [results, Try.results90, go_sem, d0, d1]) rfl ?_
    have h3 := ((htri.set w.heap.size 1 (.slice a2 (n + 1) c2') (by omega) hp (fun _ => q1)).set (w.heap.size + 1) 0 (.bool m) (by omega) hp (fun _ => q2)).set (w.heap.size + 1) 1 (.slice a2 (n + 1) c2') (by omega) hp (fun _ => q2)
    exact ⟨_, _, n + 1, _, rfl, h3.own, by omega, z2, h3.src, h3.al⟩
  | 1, _ =>
    obtain ⟨c0, c1, f0, f1, lt⟩ := id hx1
    obtain ⟨d0, d1, e0, e1, lt'⟩ := id hy1
    have htri : Tri p k (t + 1) B (.slice a n c) (.slice none 0 0) 0 (fun _ => 0) w w1 := ⟨own_nil _ _ _, hS1, hal⟩
    go_wp2_with fail
    refine bodyPost_ret (v := .agg #[.bool true, .slice none 0 0]) (by simp [results, Try.results90, go_sem, d0, d1]) rfl ?_
    have h3 := (((htri.set w.heap.size 1 (.slice none 0 0) (by omega) hp (fun h => by omega)).set w.heap.size 0 (.bool true) (by omega) hp (fun h => by omega)).set (w.heap.size + 1) 0 (.bool true) (by omega) hp (fun h => by omega)).set (w.heap.size + 1) 1 (.slice none 0 0) (by omega) hp (fun h => by omega)
    exact ⟨_, _, 0, _, rfl, h3.own, by omega, (fun _ _ _ e => by cases e), h3.src, h3.al⟩
  | 2, _ =>
    obtain ⟨c0, c1, f0, f1, lt⟩ := id hx1
    obtain ⟨d0, d1, e0, e1, lt'⟩ := id hy1
    have hmk := run_make_row' (P := Try.prog) 23 60 (.int .u32 0) 4 Try.underlying23 Try.info60 rfl .i64 .i64 41 (by omega) (by omega)
    rw [show ((41 : Nat) : Int) = 41 from rfl] at hmk
    have hsz : (w1.setCell ⟨w.heap.size, 1, none⟩ (.slice (some ⟨w1.heap.size, 0, none⟩) 41 41)).heap.size = w1.heap.size := by simp [World.setCell]
    have hh := half41 (w1.setCell ⟨w.heap.size, 1, none⟩ (.slice (some ⟨w1.heap.size, 0, none⟩) 41 41))
    rw [hsz] at hh
    have hm0 := half_made (w1.setCell ⟨w.heap.size, 1, none⟩ (.slice (some ⟨w1.heap.size, 0, none⟩) 41 41)) 41
    rw [hsz] at hm0
    have hm41 := hm0.limb 40 (by decide)
    have hf41 := hm0.frozen 40
    have htri : Tri p k (t + 1) B (.slice a n c) (.slice (some ⟨w1.heap.size, 0, none⟩) 41 41) 41 (upd (fun _ => 0) 40 1) w ((w1.setCell ⟨w.heap.size, 1, none⟩ (.slice (some ⟨w1.heap.size, 0, none⟩) 41 41)).alloc (.cells ((madeCells #[.int .u32 0] 41).setIfInBounds 40 (.int .u32 1)) 60)) := by
      have hb1 : Below w.heap.size w1 (w1.setCell ⟨w.heap.size, 1, none⟩ (.slice (some ⟨w1.heap.size, 0, none⟩) 41 41)) := (Below.refl _ _).setCell (by exact Nat.le_refl _) _
      have hb2 := hb1.alloc (by rw [hsz]; omega) (.cells ((madeCells #[.int .u32 0] 41).setIfInBounds 40 (.int .u32 1)) 60)
      exact ⟨hh.own rfl (by omega) (by unfold maxLen; omega) (fun i _ => by simp only [upd]; split <;> omega), hS1.up hb2 hp, hal.up hb2 (Nat.le_refl _)⟩
    have hx2 : Bx ((w1.setCell ⟨w.heap.size, 1, none⟩ (.slice (some ⟨w1.heap.size, 0, none⟩) 41 41)).alloc (.cells ((madeCells #[.int .u32 0] 41).setIfInBounds 40 (.int .u32 1)) 60)) w.heap.size (.bool m) (.slice (some ⟨w1.heap.size, 0, none⟩) 41 41) := by
      have n0 : (⟨w.heap.size, 1, none⟩ : Addr) ≠ ⟨w.heap.size, 0, none⟩ := by simp
      have h1 : Bx (w1.setCell ⟨w.heap.size, 1, none⟩ (.slice (some ⟨w1.heap.size, 0, none⟩) 41 41)) w.heap.size (.bool m) (.slice (some ⟨w1.heap.size, 0, none⟩) 41 41) := ⟨(World.cell?_setCell_other _ _ _ _ n0).trans c0, World.cell?_setCell_same _ _ _ c1, by rw [World.frozen?_setCell]; exact f0, by rw [World.frozen?_setCell]; exact f1, by rw [hsz]; exact lt⟩
      exact h1.next (below_alloc1 _ _)
    have hy2 : Bx ((w1.setCell ⟨w.heap.size, 1, none⟩ (.slice (some ⟨w1.heap.size, 0, none⟩) 41 41)).alloc (.cells ((madeCells #[.int .u32 0] 41).setIfInBounds 40 (.int .u32 1)) 60)) (w.heap.size + 1) (.bool false) (.slice none 0 0) := by
      have h1 : Bx (w1.setCell ⟨w.heap.size, 1, none⟩ (.slice (some ⟨w1.heap.size, 0, none⟩) 41 41)) (w.heap.size + 1) (.bool false) (.slice none 0 0) := hy1.keep (Below.heap_setCell _ _ _ _ (by show w.heap.size + 1 ≠ w.heap.size; omega)) (by rw [hsz]; omega)
      exact h1.next (below_alloc1 _ _)
    clear hh hsz hm0
    go_upto_region 10 with fail
    clear hm41 hf41
    generalize ((w1.setCell ⟨w.heap.size, 1, none⟩ (.slice (some ⟨w1.heap.size, 0, none⟩) 41 41)).alloc (.cells ((madeCells #[.int .u32 0] 41).setIfInBounds 40 (.int .u32 1)) 60)) = W2 at *
    clear d0 d1 e0 e1 c0 c1 f0 f1 hmk
    obtain ⟨c0, c1, f0, f1, _⟩ := id hx2
    obtain ⟨d0, d1, e0, e1, _⟩ := id hy2
    go_wp2_with fail
    refine bodyPost_ret (v := .agg #[.bool m, .slice (some ⟨w1.heap.size, 0, none⟩) 41 41]) (by simp [results, Try.results90, go_sem, d0, d1]) rfl ?_
    have hq : (Value.slice (some ⟨w1.heap.size, 0, none⟩) 41 41).ownBlock ≠ some (w.heap.size + 1) := fun e => by have : w1.heap.size = w.heap.size + 1 := (by simpa [Value.ownBlock] using e); omega
    have h3 := (htri.set (w.heap.size + 1) 0 (.bool m) (by omega) hp (fun _ => hq)).set (w.heap.size + 1) 1 (.slice (some ⟨w1.heap.size, 0, none⟩) 41 41) (by omega) hp (fun _ => hq)
    exact ⟨_, _, 41, _, rfl, h3.own, by omega, (fun _ _ _ e => by (simp only [Value.slice.injEq, Option.some.injEq] at e; rw [← e.1])), h3.src, h3.al⟩
  | 3, _ =>
    obtain ⟨c0, c1, f0, f1, lt⟩ := id hx1
    obtain ⟨d0, d1, e0, e1, lt'⟩ := id hy1
    have htri : Tri p k (t + 1) B (.slice a n c) (.slice a n c) n f w w1 := ⟨hrow1.own HF.out, hS1, hal⟩
    go_wp2_with fail
    refine bodyPost_ret (v := .agg #[.bool m, .slice a n c]) (by simp [results, Try.results90, go_sem, d0, d1]) rfl ?_
    have h3 := (htri.set (w.heap.size + 1) 0 (.bool m) (by omega) hp (fun _ e => HNE.out _ (by omega) e.symm)).set (w.heap.size + 1) 1 (.slice a n c) (by omega) hp (fun _ e => HNE.out _ (by omega) e.symm)
    exact ⟨_, _, n, _, rfl, h3.own, by omega, hrow1.z0, h3.src, h3.al⟩

end Go.Proofs.Ytbgocfcnkhfejaa
