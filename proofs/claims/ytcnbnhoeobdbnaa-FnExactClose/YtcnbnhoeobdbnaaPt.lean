import Derived.Test.YtcnbnhoeobdbnaaPs
namespace Go.Proofs.Ytcnbnhoeobdbnaa
open Go.RowKit Go.Joins

theorem PRow.kept {A B : World} {S : Nat → Prop} {L : List Pd} {b o : Nat} (h : PRow A L b o) (k : Kept S A B) (hb : S b) (hl : b < A.heap.size) : PRow B L b o := fun i x hx => by
  obtain ⟨h1, h2⟩ := h i x hx
  exact ⟨(k.cell (p := ⟨b, _, none⟩) hl hb).trans h1, (k.cell (p := ⟨b, _, none⟩) hl hb).trans h2⟩

/-- A copy of a scheme: where its preds and its type's rows lie. -/
structure ScC (W W' : World) (P : List Pd) (ks G : Fo) (g y b : Nat) : Prop where
  sim : G.sim ks
  be : Below W.heap.size W W'
  pr : PRow W' P g 0
  rm : Room W' g (P.length * 2)
  lo : W.heap.size ≤ g
  gy : g < y
  hi : y ≤ W'.heap.size
  sl : G.Sl W' (fun c => y ≤ c ∧ c < W'.heap.size) (some ⟨b, 0, none⟩) G.len
  nd : (blk (some ⟨b, 0, none⟩) G.len ++ G.inn).Nodup
  lv : Live W' (blk (some ⟨b, 0, none⟩) G.len ++ G.inn)

set_option maxHeartbeats 2000000 in
set_option maxRecDepth 100000 in
theorem to_scheme (c : Int) (P : List Pd) (pa : Option Addr) (pc : Nat) (k ix : Int) (nm : ByteArray) (a : Option Addr) (cap : Nat) (ks : Fo) (W : World) (hpt : pft P ≤ 1048576) (ht : ks.tot ≤ 1048576) (hp : PSl W W.heap.size pa pc P) (hs : ks.Sl W (fun b => b < W.heap.size) a cap) :
    Calls Try.prog 41 #[schV c pa P.length pc k ix nm a ks.len cap] W fun e W' => ∃ (g y b : Nat) (G : Fo), e = .returned (schV c (some ⟨g, 0, none⟩) P.length P.length k ix nm (some ⟨b, 0, none⟩) G.len G.len) ∧ ScC W W' P ks G g y b := by
  unfold schV
  obtain ⟨W3, hW3⟩ : ∃ W3, ((W.alloc (.cells #[.int .i64 c, .slice pa P.length pc, .int .i64 k, .int .i64 ix, .string nm, .slice a ks.len cap] 61)).alloc (.cells #[.int .i64 0, .slice none 0 0, .int .i64 0, .int .i64 0, .string ⟨#[]⟩, .slice none 0 0] 51)).alloc (.cells #[.int .i64 c, .slice none 0 0, .int .i64 0, .int .i64 0, .string ⟨#[]⟩, .slice none 0 0] 51) = W3 := ⟨_, rfl⟩
  have b3 : Below W.heap.size W W3 := by rw [← hW3]; exact below_alloc3 _ _ _ _
  have z3 : W3.heap.size = W.heap.size + 1 + 1 + 1 := by rw [← hW3]; simp
  have q1 : Box6 W3 W.heap.size (.int .i64 c) (.slice pa P.length pc) (.int .i64 k) (.int .i64 ix) (.string nm) (.slice a ks.len cap) := by
    rw [← hW3]
    exact (Box6.new _ _ _ _ _ _ _ _).kept ((Kept.alloc (fun _ => True) _ _).trans (Kept.alloc _ _ _)) trivial
  have q2 : Box6 W3 (W.heap.size + 1) (.int .i64 0) (.slice none 0 0) (.int .i64 0) (.int .i64 0) (.string ⟨#[]⟩) (.slice none 0 0) := by
    rw [← hW3]
    have := (Box6.new (W.alloc (.cells #[.int .i64 c, .slice pa P.length pc, .int .i64 k, .int .i64 ix, .string nm, .slice a ks.len cap] 61)) (.int .i64 0) (.slice none 0 0) (.int .i64 0) (.int .i64 0) (.string ⟨#[]⟩) (.slice none 0 0) 51).kept (Kept.alloc (fun _ => True) _ (.cells #[.int .i64 c, .slice none 0 0, .int .i64 0, .int .i64 0, .string ⟨#[]⟩, .slice none 0 0] 51)) trivial
    rwa [World.size_alloc] at this
  have q3 : Box6 W3 (W.heap.size + 1 + 1) (.int .i64 c) (.slice none 0 0) (.int .i64 0) (.int .i64 0) (.string ⟨#[]⟩) (.slice none 0 0) := by
    rw [← hW3]
    have := Box6.new ((W.alloc (.cells #[.int .i64 c, .slice pa P.length pc, .int .i64 k, .int .i64 ix, .string nm, .slice a ks.len cap] 61)).alloc (.cells #[.int .i64 0, .slice none 0 0, .int .i64 0, .int .i64 0, .string ⟨#[]⟩, .slice none 0 0] 51)) (.int .i64 c) (.slice none 0 0) (.int .i64 0) (.int .i64 0) (.string ⟨#[]⟩) (.slice none 0 0) 51
    rwa [World.size_alloc, World.size_alloc] at this
  have HP := hide (to_preds P W3 pa pc hpt ((hp.below b3 (Nat.le_refl _)).mono (by omega)))
  have HB3 := hide b3
  have HZ3 := hide z3
  have HQ1 := hide q1
  have HQ2 := hide q2
  have HQ3 := hide q3
  have HS := hide hs
  clear b3 z3 q1 q2 q3 hp hs
  go_enter Try.func41, Try.ntmps41
  go_upto_region 3 with fail
  clear hW3
  obtain ⟨-, xu, xp, x0, xi, x1, x2, -, -, -, -, -, -⟩ := HQ1.out
  go_wp2_with fail
  refine HP.out.mono ?_
  rintro e w1 ⟨rfl, b1, hpr, hlt1, hrm⟩
  obtain ⟨g, hg⟩ : ∃ g, W3.heap.size = g := ⟨_, rfl⟩
  have hz3 := HZ3.out
  rw [hg] at b1 hpr hlt1 hrm ⊢
  have k1 : Kept (fun c => c < g) W3 w1 := Kept.of_below b1 (fun c _ h => h)
  have q1 := HQ1.out.kept k1 (by omega)
  have q2 := HQ2.out.kept k1 (by omega)
  have q3 := HQ3.out.kept k1 (by omega)
  obtain ⟨w2, hw2⟩ : ∃ w2, w1.setCell ⟨W.heap.size + 1 + 1, 1, none⟩ (.slice (some ⟨g, 0, none⟩) P.length P.length) = w2 := ⟨_, rfl⟩
  have k2 : Kept (fun c => c ≠ W.heap.size + 1 + 1) w1 w2 := by rw [← hw2]; exact Kept.setCell _ _ _ _ (by simp)
  have r1 := q1.kept k2 (by omega)
  have r2 := q2.kept k2 (by omega)
  have r3 : Box6 w2 (W.heap.size + 1 + 1) (.int .i64 c) (.slice (some ⟨g, 0, none⟩) P.length P.length) (.int .i64 0) (.int .i64 0) (.string ⟨#[]⟩) (.slice none 0 0) := by
    rw [← hw2]
    obtain ⟨l, xu, xp, x0, xi, x1, x2, yu, yp, y0, yi, y1, y2⟩ := q3
    refine ⟨by simpa [World.setCell] using l, ?_, World.cell?_setCell_same' _ _ _ (by rw [xp]; rfl), ?_, ?_, ?_, ?_, by rw [World.frozen?_setCell]; exact yu, by rw [World.frozen?_setCell]; exact yp, by rw [World.frozen?_setCell]; exact y0, by rw [World.frozen?_setCell]; exact yi, by rw [World.frozen?_setCell]; exact y1, by rw [World.frozen?_setCell]; exact y2⟩
    · exact (World.cell?_setCell_other _ _ _ _ (by simp)).trans xu
    · exact (World.cell?_setCell_other _ _ _ _ (by simp)).trans x0
    · exact (World.cell?_setCell_other _ _ _ _ (by simp)).trans xi
    · exact (World.cell?_setCell_other _ _ _ _ (by simp)).trans x1
    · exact (World.cell?_setCell_other _ _ _ _ (by simp)).trans x2
  have z2 := k2.size
  have B2 : Below W.heap.size W w2 := (HB3.out.trans (b1.mono (by omega))).trans (k2.below (fun c hc => by show c ≠ _; omega) (by omega))
  have HT := to_node (to_row _ ks (Nat.lt_succ_self _)) k ix nm W.heap.size w2 a cap (by omega) ht (HS.out.below B2 (fun _ x => x))
  unfold nodeV at HT
  have HT' := hide HT
  have HPR := hide (hpr.kept k2 (by omega) hlt1)
  have HRM := hide (hrm.kept k2 (by omega) hlt1)
  have HB2 := hide B2
  have HR2 := hide r2
  have HR3 := hide r3
  have HZ2 := hide (And.intro z2 (And.intro hlt1 (And.intro hg hz3)))
  obtain ⟨-, yu, yp, y0, yi, y1, y2, -, -, -, -, -, -⟩ := id q3
  have fy := q3.fp
  clear xu xp x0 xi x1 x2
  obtain ⟨-, xu, xp, x0, xi, x1, x2, -, -, -, -, -, -⟩ := id r1
  clear r1 r2 r3 q1 q2 q3 k1 k2 B2 hpr hrm HT b1 z2 hlt1 hg hz3
  go_upto_region 4 with fail
  clear hw2 yu yp y0 yi y1 y2 fy
  go_wp2_with fail
  refine HT'.out.mono ?_
  rintro e w3 ⟨b, G, s3, rfl, b3, g3, -, nd3, lv3⟩
  obtain ⟨z2, hlt1, hg, hz3⟩ := HZ2.out
  have z3 := b3.size
  have r2 := HR2.out.below b3
  have r3 := HR3.out.below b3
  have HX := hide (And.intro z3 (And.intro s3 (And.intro b3 (And.intro g3 (And.intro nd3 lv3)))))
  obtain ⟨-, au, ap, a0, ai, a1, a2, cu, cp, c0, ci, c1, c2⟩ := r2
  obtain ⟨-, du, dp, d0, di, d1, d2, eu, ep, e0, ei, e1, e2⟩ := r3
  clear s3 b3 g3 nd3 lv3 z3 xu xp x0 xi x1 x2 z2 hlt1 hg hz3
  go_wp2_with fail
  obtain ⟨z3, s3, b3, g3, nd3, lv3⟩ := HX.out
  obtain ⟨z2, hlt1, hg, hz3⟩ := HZ2.out
  refine bodyPost_ret (v := .agg #[.int .i64 c, .slice (some ⟨g, 0, none⟩) P.length P.length, .int .i64 k, .int .i64 ix, .string nm, .slice (some ⟨b, 0, none⟩) G.len G.len]) (by simp [results, Try.results41, go_sem, au, ap, a0, ai, a1, a2]) rfl ⟨g, w2.heap.size, b, G, rfl, ?_⟩
  have kS : ∀ (V : World) (o : Nat) (v : Value), Kept (fun c => c ≠ W.heap.size + 1 ∧ c ≠ W.heap.size + 1 + 1) V (V.setCell ⟨W.heap.size + 1, o, none⟩ v) := fun V o v => Kept.setCell _ _ _ _ (by simp)
  have kT : ∀ (V : World) (o : Nat) (v : Value), Kept (fun c => c ≠ W.heap.size + 1 ∧ c ≠ W.heap.size + 1 + 1) V (V.setCell ⟨W.heap.size + 1 + 1, o, none⟩ v) := fun V o v => Kept.setCell _ _ _ _ (by simp)
  refine (fun (V : World) (kV : Kept (fun c => c ≠ W.heap.size + 1 ∧ c ≠ W.heap.size + 1 + 1) w3 V) => (?_ : ScC W V P ks G g w2.heap.size b)) _ ?_
  · have zV := kV.size
    have k23 := kt b3
    exact ⟨s3, Below.kept (HB2.out.trans (b3.mono (by omega))) kV (fun c hc => by omega) (Nat.le_refl _), (HPR.out.kept k23 trivial (by omega)).kept kV (by omega) (by omega), (HRM.out.kept k23 trivial (by omega)).kept kV (by omega) (by omega), by omega, by omega, by omega,
      (g3.kept kV (fun c hc => ⟨by omega, hc.2⟩)).mono (fun c hc => ⟨hc.1, by omega⟩), nd3, lv3.kept kV (fun c hc => by have h := g3.all_of c hc; exact ⟨by omega, h.2⟩)⟩
  · first
      | exact ((((((((((kT _ _ _).trans (kT _ _ _)).trans (kT _ _ _)).trans (kT _ _ _)).trans (kS _ _ _)).trans (kS _ _ _)).trans (kS _ _ _)).trans (kS _ _ _)).trans (kS _ _ _)).trans (kS _ _ _))
      | fail "kept"

end Go.Proofs.Ytcnbnhoeobdbnaa
