import Derived.Test.YtjlefdalobgdfaaMkA
namespace Go.Proofs.Ytjlefdalobgdfaa
open Go.RowKit Go.Joins

/-- A type's variable: four cells of a block of our own. -/
structure Box4 (W : World) (b : Nat) (x i y z : Value) : Prop where
  lt : b < W.heap.size
  c0 : W.cell? ⟨b, 0, none⟩ = some x
  ci : W.cell? ⟨b, 1, none⟩ = some i
  c1 : W.cell? ⟨b, 2, none⟩ = some y
  c2 : W.cell? ⟨b, 3, none⟩ = some z
  f0 : W.frozen? ⟨b, 0, none⟩ = false
  fi : W.frozen? ⟨b, 1, none⟩ = false
  f1 : W.frozen? ⟨b, 2, none⟩ = false
  f2 : W.frozen? ⟨b, 3, none⟩ = false

theorem Box4.new (W : World) (x i y z : Value) (t : TypeId) : Box4 (W.alloc (.cells #[x, i, y, z] t)) W.heap.size x i y z :=
  ⟨by simp, by simp, by simp, by simp, by simp, by simp, by simp, by simp, by simp⟩

theorem Box4.below {A B : World} {n b : Nat} {x i y z : Value} (h : Box4 A b x i y z) (k : Below n A B) (hb : b < n) : Box4 B b x i y z :=
  ⟨Nat.lt_of_lt_of_le h.lt k.size, (k.cell (p := ⟨b, 0, none⟩) hb).trans h.c0, (k.cell (p := ⟨b, 1, none⟩) hb).trans h.ci, (k.cell (p := ⟨b, 2, none⟩) hb).trans h.c1, (k.cell (p := ⟨b, 3, none⟩) hb).trans h.c2,
    (k.frozen (p := ⟨b, 0, none⟩) hb).trans h.f0, (k.frozen (p := ⟨b, 1, none⟩) hb).trans h.fi, (k.frozen (p := ⟨b, 2, none⟩) hb).trans h.f1, (k.frozen (p := ⟨b, 3, none⟩) hb).trans h.f2⟩

theorem Box4.alloc {A : World} {b : Nat} {x i y z : Value} (h : Box4 A b x i y z) (o : Obj) : Box4 (A.alloc o) b x i y z := h.below (below_alloc1 A o) h.lt

/-- The copy of a row. -/
def ToS (F : Fo) : Prop := ∀ (n0 : Nat) (W : World) (a : Option Addr) (cap : Nat), n0 ≤ W.heap.size → F.tot ≤ 1048576 → F.Sl W (fun b => b < n0) a cap →
  Calls Try.prog 45 #[.slice a F.len cap] W fun e W' => ∃ (b : Nat) (G : Fo), G.sim F ∧ e = .returned (.slice (some ⟨b, 0, none⟩) G.len G.len) ∧ Below W.heap.size W W' ∧
    G.Sl W' (fun c => W.heap.size ≤ c ∧ c < W'.heap.size) (some ⟨b, 0, none⟩) G.len ∧ G.Full ∧ (blk (some ⟨b, 0, none⟩) G.len ++ G.inn).Nodup ∧ Live W' (blk (some ⟨b, 0, none⟩) G.len ++ G.inn)

set_option maxHeartbeats 1000000 in
set_option maxRecDepth 100000 in
theorem to_node {ks : Fo} (hS : ToS ks) (k ix : Int) (nm : ByteArray) (n0 : Nat) (W : World) (a : Option Addr) (cap : Nat) (hn : n0 ≤ W.heap.size) (ht : ks.tot ≤ 1048576) (hs : ks.Sl W (fun b => b < n0) a cap) :
    Calls Try.prog 11 #[nodeV k ix nm a ks.len cap] W fun e W' => ∃ (b : Nat) (G : Fo), G.sim ks ∧ e = .returned (nodeV k ix nm (some ⟨b, 0, none⟩) G.len G.len) ∧ Below W.heap.size W W' ∧
      G.Sl W' (fun c => W.heap.size ≤ c ∧ c < W'.heap.size) (some ⟨b, 0, none⟩) G.len ∧ G.Full ∧ (blk (some ⟨b, 0, none⟩) G.len ++ G.inn).Nodup ∧ Live W' (blk (some ⟨b, 0, none⟩) G.len ++ G.inn) := by
  unfold nodeV
  go_enter Try.func11, Try.ntmps11
  go_wp2_with fail
  have q1 := Box4.new W (.int .i64 k) (.int .i64 ix) (.string nm) (.slice a ks.len cap) 24
  generalize hA : W.alloc (.cells #[.int .i64 k, .int .i64 ix, .string nm, .slice a ks.len cap] 24) = A at q1 ⊢
  have q2 := Box4.new A (.int .i64 0) (.int .i64 0) (.string ⟨#[]⟩) (.slice none 0 0) 29
  generalize hB : A.alloc (.cells #[.int .i64 0, .int .i64 0, .string ⟨#[]⟩, .slice none 0 0] 29) = B at q2 ⊢
  have q3 := Box4.new B (.int .i64 k) (.int .i64 ix) (.string nm) (.slice none 0 0) 29
  generalize hC : B.alloc (.cells #[.int .i64 k, .int .i64 ix, .string nm, .slice none 0 0] 29) = C at q3 ⊢
  have zA : A.heap.size = W.heap.size + 1 := by rw [← hA]; simp
  have zB : B.heap.size = W.heap.size + 1 + 1 := by rw [← hB, World.size_alloc, zA]
  have zC : C.heap.size = W.heap.size + 1 + 1 + 1 := by rw [← hC, World.size_alloc, zB]
  have bC : Below W.heap.size W C := by rw [← hC, ← hB, ← hA]; exact below_alloc3 _ _ _ _
  rw [zA] at q2
  rw [zB] at q3
  replace q2 : Box4 C (W.heap.size + 1) (.int .i64 0) (.int .i64 0) (.string ⟨#[]⟩) (.slice none 0 0) := by rw [← hC]; exact q2.alloc _
  clear q1 hA hB hC zA zB
  refine (hS n0 C a cap (by omega) ht (hs.below bC (fun b x => by omega))).mono ?_
  rintro e w1 ⟨b, G, hsim, rfl, b1, hG, hGf, hNd, hLv⟩
  have z1 := b1.size
  replace q2 := q2.below b1 (by omega)
  replace q3 := q3.below b1 (by omega)
  obtain ⟨-, d0, di, d1, d2, e0, ei, e1, e2⟩ := q2
  obtain ⟨-, x0, xi, x1, x2, y0, yi, y1, y2⟩ := q3
  rw [zC] at b1 z1 hG
  go_wp2_with fail
  refine bodyPost_ret (v := .agg #[.int .i64 k, .int .i64 ix, .string nm, .slice (some ⟨b, 0, none⟩) G.len G.len]) (by simp [results, Try.results11, go_sem, d0, di, d1, d2]) rfl ⟨b, G, hsim, rfl, ?_, ?_, hGf, hNd, ((((hLv.set _ _).set _ _).set _ _).set _ _).set _ _⟩
  · refine (((((bC.trans (b1.mono (by omega))).setCell ?_ _).setCell ?_ _).setCell ?_ _).setCell ?_ _).setCell ?_ _ <;> simp <;> omega
  · have hk : Kept (fun c => W.heap.size + 1 + 1 + 1 ≤ c) w1 (((((w1.setCell ⟨W.heap.size + 1 + 1, 3, none⟩ (.slice (some ⟨b, 0, none⟩) G.len G.len)).setCell ⟨W.heap.size + 1, 0, none⟩ (.int .i64 k)).setCell ⟨W.heap.size + 1, 1, none⟩ (.int .i64 ix)).setCell
        ⟨W.heap.size + 1, 2, none⟩ (.string nm)).setCell ⟨W.heap.size + 1, 3, none⟩ (.slice (some ⟨b, 0, none⟩) G.len G.len)) := by
      refine ((((Kept.setCell _ _ _ _ ?_).trans (Kept.setCell _ _ _ _ ?_)).trans (Kept.setCell _ _ _ _ ?_)).trans (Kept.setCell _ _ _ _ ?_)).trans (Kept.setCell _ _ _ _ ?_) <;> simp <;> omega
    refine (hG.kept hk (fun c x => ⟨x.1, x.2⟩)).mono (fun c x => ⟨by omega, Nat.lt_of_lt_of_le x.2 hk.size⟩)

/-- Room for n cells. -/
def Room (W : World) (g n : Nat) : Prop := ∀ j, j < n → (∃ v, W.cell? ⟨g, j, none⟩ = some v) ∧ W.frozen? ⟨g, j, none⟩ = false

theorem Room.below {A B : World} {n g m : Nat} (h : Room A g m) (k : Below n A B) (hg : g < n) : Room B g m := fun j hj => by
  obtain ⟨⟨v, hv⟩, hf⟩ := h j hj
  exact ⟨⟨v, (k.cell (p := ⟨g, j, none⟩) hg).trans hv⟩, (k.frozen (p := ⟨g, j, none⟩) hg).trans hf⟩

theorem Room.set {A : World} {g m : Nat} (h : Room A g m) (i : Nat) (v : Value) : Room (A.setCell ⟨g, i, none⟩ v) g m := fun j hj => by
  obtain ⟨⟨u, hu⟩, hf⟩ := h j hj
  refine ⟨?_, by rw [World.frozen?_setCell]; exact hf⟩
  by_cases e : j = i
  · subst e
    exact ⟨v, World.cell?_setCell_same' _ _ _ (by rw [hu]; rfl)⟩
  · exact ⟨u, by rw [World.cell?_setCell_other _ _ _ _ (by simp)]; exact hu⟩

theorem Try.info29 : (Try.prog.info? 29).map (fun i => (i.zero, i.size, i.bytes)) = some (some (.agg #[.int .i64 0, .int .i64 0, .string ⟨#[]⟩, .slice none 0 0]), 4, 56) := by kernel_rfl

theorem run_make_nodes (n : Nat) (hn : n ≤ 1048576) (w : World) :
    (Instr.makeSlice 27 (.int .i64 (n : Int)) (.int .i64 (n : Int))).run Try.prog w = .ok (.slice (some ⟨w.heap.size, 0, none⟩) n n) (w.alloc (.cells (madeCells (Value.agg #[.int .i64 0, .int .i64 0, .string ⟨#[]⟩, .slice none 0 0]).cells (n * 4)) 29)) := by
  obtain ⟨i, hi, hzz⟩ := Option.map_eq_some_iff.1 Try.info29
  simp only [Prod.mk.injEq] at hzz
  obtain ⟨hz, hs, hb⟩ := hzz
  have hr := run_make (P := Try.prog) w 27 29 i _ Try.underlying27 hi hz .i64 .i64 n n (by omega) (Int.le_refl _) (by rw [hb]; omega) (by omega)
  simp only [Int.toNat_natCast, hs] at hr
  exact hr

theorem Room.made (w : World) (cur : Array Value) (t : TypeId) : Room (w.alloc (.cells cur t)) w.heap.size cur.size := fun j hj =>
  ⟨⟨cur[j], by simp [hj]⟩, by simp⟩

theorem blk_sub (b n : Nat) (L : List Nat) : (blk (some ⟨b, 0, none⟩) n ++ L).Sublist (b :: L) := by
  cases n with
  | zero => exact List.sublist_cons_self b L
  | succ n => exact List.Sublist.refl _

set_option maxHeartbeats 1000000 in
set_option maxRecDepth 100000 in
theorem to_row : ∀ (m : Nat) (F : Fo), F.size < m → ToS F := by
  intro m
  induction m with
  | zero => intro F hF; omega
  | succ m ih =>
    intro F hF n0 W a cap hn ht hs
    have hlt := F.len_le_tot
    have hmk := run_make_nodes F.len (by omega)
    go_enter Try.func45, Try.ntmps45
    go_wp2_with fail
    clear hmk
    obtain ⟨W0, hW0⟩ : ∃ W0, W.alloc (.cells (madeCells #[.int .i64 0, .int .i64 0, .string ⟨#[]⟩, .slice none 0 0] (F.len * 4)) 29) = W0 := ⟨_, rfl⟩
    have hR0 : Room W0 W.heap.size (F.len * 4) := by
      rw [← hW0]
      have := Room.made W (madeCells #[.int .i64 0, .int .i64 0, .string ⟨#[]⟩, .slice none 0 0] (F.len * 4)) 29
      rwa [size_madeCells] at this
    have hB0 : Below W.heap.size W W0 := by rw [← hW0]; exact below_alloc1 _ _
    have hz0 : W0.heap.size = W.heap.size + 1 := by rw [← hW0]; simp
    have hL0 : Live W0 [W.heap.size] := by
      intro c hc j
      simp only [List.mem_singleton] at hc
      subst hc
      rw [← hW0]
      simp
    rw [hW0]
    clear hW0
    go_loopw [4] (fun s4 wr => ∃ (i : Nat) (r Fp Gp : Fo), s4 = .int .i64 i ∧ Fp.app r = F ∧ Fp.len = i ∧ Gp.sim Fp ∧ Gp.Full ∧ (W.heap.size :: Gp.inn).Nodup ∧ Live wr (W.heap.size :: Gp.inn) ∧ Gp.Row wr (fun c => W.heap.size + 1 ≤ c ∧ c < wr.heap.size) W.heap.size 0 ∧
      (0 < r.len → ∃ b o, a = some ⟨b, o, none⟩ ∧ b < n0 ∧ r.Row wr (fun b => b < n0) b (o + i * 4)) ∧ Room wr W.heap.size (F.len * 4) ∧ Below W.heap.size W wr ∧ W.heap.size + 1 ≤ wr.heap.size) (fun s4 _ => F.len - (intOf s4).toNat)
    case atStart => exact ⟨0, F, .nil, .nil, rfl, rfl, rfl, trivial, trivial, by simp [Fo.inn], hL0, trivial, (hs.below hB0 (fun b x => by omega)).2.2, hR0, hB0, by omega⟩
    case round =>
      obtain ⟨i, r, Fp, Gp, rfl, hF2, hi, hsim, hFu, hNd, hLv, hGp, hrow, hR, bel, hz⟩ := hrel
      have hlen : i + r.len = F.len := by rw [← hF2, Fo.app_len, hi]
      cases r with
      | nil =>
        simp only [Fo.len] at hlen
        go_wp2_with fail
        go_ret
        rw [Fo.app_nil] at hF2
        subst hF2
        have el := hsim.len
        refine ⟨W.heap.size, Gp, hsim, by rw [el]; rfl, bel, ⟨Nat.le_refl _, by rw [el]; simp only [maxLen]; omega, fun _ => ⟨_, _, rfl, ⟨Nat.le_refl _, by omega⟩, ?_⟩⟩, hFu, ?_, ?_⟩
        · exact hGp.keep (fun c x => ⟨by omega, x.2⟩) (fun _ _ _ h => h) (fun _ _ _ _ h => h)
        · exact hNd.sublist (blk_sub _ _ _)
        · exact hLv.sub (fun c hc => (blk_sub _ _ _).subset hc)
      | cons k ix nm ka kcap ks r =>
        simp only [Fo.len] at hlen
        obtain ⟨b, o, rfl, hb, hk, hix, hnm, c1, ci, c2, c3, h4, h5, h6, h7⟩ := hrow (by simp [Fo.len])
        have hks : ks.Sl wr (fun b => b < n0) ka kcap := ⟨h4, h5, h6⟩
        have hsz : ks.size < m := by rw [← hF2, Fo.app_size] at hF; simp only [Fo.size] at hF; omega
        have htt : ks.tot ≤ 1048576 := by rw [← hF2, Fo.app_tot] at ht; simp only [Fo.tot] at ht; omega
        go_wp2_with fail
        refine (to_node (ih ks hsz) k ix nm n0 wr ka kcap (by omega) htt hks).mono ?_
        rintro e w1 ⟨b', G, hsim', rfl, b1, hG, hGf, hNd', hLv'⟩
        unfold nodeV
        obtain ⟨⟨v0, a0⟩, f0⟩ := (hR.below b1 (by omega)) (i * 4) (by omega)
        obtain ⟨⟨vi, ai⟩, fi⟩ := (hR.below b1 (by omega)) (i * 4 + 1) (by omega)
        obtain ⟨⟨v1, a1⟩, f1⟩ := (hR.below b1 (by omega)) (i * 4 + 2) (by omega)
        obtain ⟨⟨v2, a2⟩, f2⟩ := (hR.below b1 (by omega)) (i * 4 + 3) (by omega)
        go_wp2_with fail
        go_roundw
        case rel =>
          have hz1 := b1.size
          obtain ⟨w4, hw4⟩ : ∃ w4, (((w1.setCell ⟨W.heap.size, i * 4, none⟩ (.int .i64 k)).setCell ⟨W.heap.size, i * 4 + 1, none⟩ (.int .i64 ix)).setCell ⟨W.heap.size, i * 4 + 2, none⟩ (.string nm)).setCell ⟨W.heap.size, i * 4 + 3, none⟩ (.slice (some ⟨b', 0, none⟩) G.len G.len) = w4 := ⟨_, rfl⟩
          have hk4 : Kept (fun c => c ≠ W.heap.size) w1 w4 := by
            rw [← hw4]
            refine (((Kept.setCell _ _ _ _ ?_).trans (Kept.setCell _ _ _ _ ?_)).trans (Kept.setCell _ _ _ _ ?_)).trans (Kept.setCell _ _ _ _ ?_) <;> simp
          have hz4 : w4.heap.size = w1.heap.size := by rw [← hw4]; simp [World.setCell]
          have hR4 : Room w4 W.heap.size (F.len * 4) := by rw [← hw4]; exact ((((hR.below b1 (by omega)).set _ _).set _ _).set _ _).set _ _
          have n0' : w4.cell? ⟨W.heap.size, i * 4, none⟩ = some (.int .i64 k) := by
            rw [← hw4, World.cell?_setCell_other _ _ _ _ (by simp), World.cell?_setCell_other _ _ _ _ (by simp), World.cell?_setCell_other _ _ _ _ (by simp)]
            exact World.cell?_setCell_same' _ _ _ (by rw [a0]; rfl)
          have ni' : w4.cell? ⟨W.heap.size, i * 4 + 1, none⟩ = some (.int .i64 ix) := by
            rw [← hw4, World.cell?_setCell_other _ _ _ _ (by simp), World.cell?_setCell_other _ _ _ _ (by simp)]
            exact World.cell?_setCell_same' _ _ _ (by rw [World.cell?_setCell_other _ _ _ _ (by simp), ai]; rfl)
          have n1' : w4.cell? ⟨W.heap.size, i * 4 + 2, none⟩ = some (.string nm) := by
            rw [← hw4, World.cell?_setCell_other _ _ _ _ (by simp)]
            exact World.cell?_setCell_same' _ _ _ (by rw [World.cell?_setCell_other _ _ _ _ (by simp), World.cell?_setCell_other _ _ _ _ (by simp), a1]; rfl)
          have n2' : w4.cell? ⟨W.heap.size, i * 4 + 3, none⟩ = some (.slice (some ⟨b', 0, none⟩) G.len G.len) := by
            rw [← hw4]
            exact World.cell?_setCell_same' _ _ _ (by rw [World.cell?_setCell_other _ _ _ _ (by simp), World.cell?_setCell_other _ _ _ _ (by simp), World.cell?_setCell_other _ _ _ _ (by simp), a2]; rfl)
          have hold : ∀ j, j < i * 4 → ∀ v, w1.cell? ⟨W.heap.size, j, none⟩ = some v → w4.cell? ⟨W.heap.size, j, none⟩ = some v := fun j hj v hv => by
            rw [← hw4, World.cell?_setCell_other _ _ _ _ (by simp), World.cell?_setCell_other _ _ _ _ (by simp), World.cell?_setCell_other _ _ _ _ (by simp), World.cell?_setCell_other _ _ _ _ (by simp)]
            exact hv
          have hLw : Live w4 ((W.heap.size :: Gp.inn) ++ (blk (some ⟨b', 0, none⟩) G.len ++ G.inn)) := by
            rw [← hw4]
            refine (((Live.set ?_ _ _).set _ _).set _ _).set _ _
            intro c hc j
            rcases List.mem_append.1 hc with h | h
            · refine (b1.frozen (p := ⟨c, j, none⟩) ?_).trans (hLv c h j)
              rcases List.mem_cons.1 h with e | e
              · subst e; show W.heap.size < _; omega
              · exact (hGp.inn_of c e).2
            · exact hLv' c h j
          have hall := hG.all_of
          have hNw : ((W.heap.size :: Gp.inn) ++ (blk (some ⟨b', 0, none⟩) G.len ++ G.inn)).Nodup := by
            rw [List.nodup_append]
            refine ⟨hNd, hNd', fun x hx y hy e => ?_⟩
            subst e
            have h1 := (hall x hy).1
            rcases List.mem_cons.1 hx with e | e
            · omega
            · have := (hGp.inn_of x e).2; omega
          have einn : W.heap.size :: (Gp.app (.cons k ix nm (some ⟨b', 0, none⟩) G.len G .nil)).inn = (W.heap.size :: Gp.inn) ++ (blk (some ⟨b', 0, none⟩) G.len ++ G.inn) := by
            rw [Fo.inn_app]; simp [Fo.inn]
          rw [hw4]
          clear hw4
          have hGl := hsim.len
          refine ⟨i + 1, r, Fp.app (.cons k ix nm ka kcap ks .nil), Gp.app (.cons k ix nm (some ⟨b', 0, none⟩) G.len G .nil), by go_num, by rw [Fo.app_assoc]; exact hF2, by rw [Fo.app_len, hi]; rfl,
            hsim.app ⟨rfl, rfl, rfl, hsim', trivial⟩, hFu.app ⟨rfl, hGf, trivial⟩, by rw [einn]; exact hNw, by rw [einn]; exact hLw, Fo.Row.app ?_ ?_, fun _ => ⟨b, o, rfl, hb, ?_⟩, hR4, ?_, by omega⟩
          · refine hGp.keep (fun c x => ⟨x.1, by omega⟩) (fun p hp v hv => ?_) (fun j _ hj v hv => ?_)
            · have h1 := (b1.cell (p := p) hp.2).trans hv
              exact (hk4.cell (p := p) (Nat.lt_of_lt_of_le hp.2 hz1) (by have := hp.1; omega)).trans h1
            · exact hold j (by rw [hGl, hi] at hj; omega) v ((b1.cell (p := ⟨W.heap.size, j, none⟩) (by show W.heap.size < _; omega)).trans hv)
          · rw [hGl, hi]
            simp only [Nat.zero_add]
            refine ⟨hk, hix, hnm, n0', ni', n1', n2', hG.1, hG.2.1, fun hl => ?_, trivial⟩
            have := (hG.kept hk4 (fun c x => ⟨by omega, x.2⟩)).mono (T := fun c => W.heap.size + 1 ≤ c ∧ c < w4.heap.size) (fun c x => ⟨by omega, by omega⟩)
            exact this.2.2 hl
          · have e : o + (i + 1) * 4 = o + i * 4 + 4 := by omega
            rw [e]
            refine (h7.below b1 (fun b x => by omega) (by omega)).keep (fun _ x => x) (fun p hp v hv => ?_) (fun j _ _ v hv => ?_)
            · exact (hk4.cell (p := p) (by have : p.block < n0 := hp; omega) (by have : p.block < n0 := hp; show p.block ≠ _; omega)).trans hv
            · exact (hk4.cell (p := ⟨b, j, none⟩) (by show b < _; omega) (by show b ≠ _; omega)).trans hv
          · exact (bel.trans (b1.mono (by omega))).trans (hk4.below (fun c hc => by show c ≠ _; omega) (by omega))
        case measure => simp [intOf]; omega

end Go.Proofs.Ytjlefdalobgdfaa
