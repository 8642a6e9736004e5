import Derived.Test.YtcnokpaicnjkfaaJK
namespace Go.Proofs.Ytcnokpaicnjkfaa
open Go.RowKit Go.Shelf Go.Joins

attribute [local go_sem] Oper.semAt_some

/-- A variable of one cell, of the caller's own. -/
def Hold (w : World) (c : Nat) (v : Value) (O : Nat → Prop) (W : World) : Prop :=
  W.cell? ⟨c, 0, none⟩ = some v ∧ W.frozen? ⟨c, 0, none⟩ = false ∧ ¬ O c ∧ Below w.heap.size w W ∧ ∀ b, O b → w.heap.size ≤ b

theorem Hold.abid {w : World} {c : Nat} {O O' : Nat → Prop} {A B : World} {v : Value} (h : Hold w c v O A) (hK : Kept (fun b => ¬ O b) A B) (hn : ∀ b, O' b → O b ∨ A.heap.size ≤ b) : Hold w c v O' B := by
  obtain ⟨h1, h2, h3, h4, h5⟩ := h
  have hl : c < A.heap.size := block_lt_of_cell h1
  refine ⟨(hK.cell (p := ⟨c, 0, none⟩) hl h3).trans h1, (hK.frozen (p := ⟨c, 0, none⟩) hl h3).trans h2, fun x => ?_, Below.kept h4 hK (fun b hb x => ?_) (Nat.le_refl _), fun b x => ?_⟩
  · rcases hn c x with y | y
    · exact h3 y
    · omega
  · have := h5 b x; omega
  · rcases hn b x with y | y
    · exact h5 b y
    · have := h4.size; omega

theorem Hold.set {w : World} {c : Nat} {O : Nat → Prop} {A : World} {v : Value} (h : Hold w c v O A) (u : Value) (hc : w.heap.size ≤ c) : Hold w c u O (A.setCell ⟨c, 0, none⟩ u) :=
  ⟨World.cell?_setCell_same' _ _ _ (by rw [h.1]; rfl), by rw [World.frozen?_setCell]; exact h.2.1, h.2.2.1, h.2.2.2.1.setCell hc _, h.2.2.2.2⟩

theorem Hold.other {w : World} {c d : Nat} {O : Nat → Prop} {A : World} {v : Value} (h : Hold w c v O A) (u : Value) (hd : w.heap.size ≤ d) (hcd : c ≠ d) : Hold w c v O (A.setCell ⟨d, 0, none⟩ u) :=
  ⟨(World.cell?_setCell_other _ _ _ _ (by simp)).trans h.1, by rw [World.frozen?_setCell]; exact h.2.1, h.2.2.1, h.2.2.2.1.setCell hd _, h.2.2.2.2⟩

theorem Hold.next {w : World} {c : Nat} {O : Nat → Prop} {A B : World} {v : Value} (h : Hold w c v O A) (k : Below A.heap.size A B) : Hold w c v O B := by
  obtain ⟨h1, h2, h3, h4, h5⟩ := h
  have hl : c < A.heap.size := block_lt_of_cell h1
  exact ⟨(k.cell (p := ⟨c, 0, none⟩) hl).trans h1, (k.frozen (p := ⟨c, 0, none⟩) hl).trans h2, h3, h4.trans (k.mono h4.size), h5⟩

theorem Hold.drew {w : World} {c : Nat} {O : Nat → Prop} {A : World} {v : Value} (h : Hold w c v O A) : Hold w c v O A.drew := h.next ((Below.refl _ _).drew)

/-- What the first k terms add to the count. -/
def sumT (LL : List (Nat × Nd)) (k : Nat) : Nat := ((LL.take k).map (fun e => (rdK e.2.x).nw1)).sum

def SzI (w : World) (LL : List (Nat × Nd)) (k : Nat) (O : Nat → Prop) (W : World) : Prop :=
  Hold w (w.heap.size + 1) (.int .i64 ((1 + sumT LL k : Nat) : Int)) O W ∧ Hold w w.heap.size (.bool false) O W ∧ (sumT LL k ≤ k * 134217728 ∧ ∀ e, e ∈ LL.take k → e.1 ≤ 1000)
def SzX (w : World) (LL : List (Nat × Nd)) (cd : Code) (_ : Nat) (O : Nat → Prop) (W : World) : Prop :=
  cd = .ret ∧ Hold w w.heap.size (.bool true) O W ∧ ¬ (1 + sumT LL LL.length ≤ 20000 ∧ ∀ e, e ∈ LL → e.1 ≤ 1000)
theorem SzI.abid (w : World) (LL : List (Nat × Nd)) : Abid (SzI w LL) := fun _ _ _ _ _ h hK hn => ⟨h.1.abid hK hn, h.2.1.abid hK hn, h.2.2⟩
theorem SzX.abid (w : World) (LL : List (Nat × Nd)) (cd : Code) : Abid (SzX w LL cd) := fun _ _ _ _ _ h hK hn => ⟨h.1, h.2.1.abid hK hn, h.2.2⟩

theorem an_sz : ∀ (n : Nat) (F : Fo), Fit E F (rep (E 2) n) → (rdA F).an ≤ F.size
  | 0, F, h => by rw [fit_nil h, rdA_nil]; exact Nat.zero_le _
  | n + 1, F, h => by
    obtain ⟨x, q, rfl, hx, hq, -⟩ := Fit.split (fs := E 2) (gs := rep (E 2) n) h
    obtain ⟨con, ca, cn, cc, ck, y, rfl, h1, -, e, -⟩ := anA_app hx q
    have := an_sz n q hq
    have e1 := Fit.len h1
    rw [rep_len] at e1
    have e2 : (E 1).length = 1 := rfl
    rw [e2] at e1
    have := ck.len_le
    rw [e, Fo.app_size]
    simp only [Fo.size]
    omega

theorem wr3 (C a b : Nat) (h : C ≤ 2251799813685249) (ha : a ≤ 16777216) (hb : b ≤ 16777216) : IntKind.i64.wrap ((C : Int) + IntKind.i64.wrap ((a : Int) + (b : Int))) = ((C + (a + b) : Nat) : Int) := by
  rw [IntKind.wrap_i64, IntKind.wrap_i64]
  omega

theorem wr2 (C a : Nat) (h : C ≤ 2251799813685249 * 4) (ha : a ≤ 16777216) : IntKind.i64.wrap ((C : Int) + (a : Int)) = ((C + a : Nat) : Int) := by
  rw [IntKind.wrap_i64]
  omega

theorem sumT_le (LL : List (Nat × Nd)) (i : Nat) : sumT LL i ≤ sumT LL LL.length := by
  unfold sumT
  rw [List.take_length]
  have h := List.take_append_drop i LL
  conv => rhs; rw [← h]
  rw [List.map_append, List.sum_append]
  omega

theorem sumT_succ {LL : List (Nat × Nd)} {i : Nat} {e : Nat × Nd} (h : LL[i]? = some e) : sumT LL (i + 1) = sumT LL i + (rdK e.2.x).nw1 := by
  unfold sumT
  rw [List.take_add_one, h, List.map_append, List.sum_append]
  simp

set_option maxRecDepth 100000 in
set_option maxHeartbeats 4000000 in
theorem large_in (n : Nat) (hn : 4 ≤ n) (d : Nd) (w : World) (hd : d.Ok w (fun b => b < w.heap.size)) (hsz : d.x.size ≤ 16777216) :
    CallsIn Fence.wide n Try.prog 45 #[d.ptr] w fun e W' => Below w.heap.size w W' ∧ ∃ q : Bool, e = .returned (.bool q) ∧ (q = false ↔ (1 + sumT (preL [d] 1) (preL [d] 1).length ≤ 20000 ∧ ∀ e, e ∈ preL [d] 1 → e.1 ≤ 1000)) := by
  have h1 : 1 ≤ n := by omega
  have HCO := hide (fun W => i_coresOf d W)
  obtain ⟨LL, hLL⟩ : ∃ LL, LL = preL [d] 1 := ⟨_, rfl⟩
  have hpf := pre_one hd
  rw [← hLL] at hpf ⊢
  simp only [Nd.ptr] at HCO ⊢
  refine callsIn_of_wp_marks Try.func45 rfl trivial ?_ rfl
  simp only [Try.ntmps45, List.size_toArray, List.length_cons, List.length_nil, Nat.reduceAdd, Nat.reduceSub, Array.replicate_succ, Array.replicate_zero, List.push_toArray, List.append_toArray, List.nil_append, List.cons_append]
  gi_wp2_with (refine ⟨trivial, ?_⟩; gi_at_call 46; refine (callsIn_wide.2 (HCO.out _)).mono ?_; rintro e w' ⟨rfl, rfl⟩)
  obtain ⟨W0, hW0⟩ : ∃ W0, (((w.alloc (.cells #[.bool false] 4)).alloc (.cells #[.int .i64 1] 3)).alloc (.cells #[.pointer (some ⟨d.b, d.o, none⟩)] 58)).alloc (.cells #[.func (.func 56) #[] #[]] 111) = W0 := ⟨_, rfl⟩
  have z0 : W0.heap.size = w.heap.size + 4 := by rw [← hW0]; simp
  have hB0 : Below w.heap.size w W0 := by
    rw [← hW0]
    have k1 := below_alloc2 w (.cells #[.bool false] 4) (.cells #[.int .i64 1] 3)
    exact k1.trans ((below_alloc2 _ _ _).mono k1.size)
  have hcell : ∀ (A : World) (v : Value) (ty : TypeId), (A.alloc (.cells #[v] ty)).cell? ⟨A.heap.size, 0, none⟩ = some v ∧ (A.alloc (.cells #[v] ty)).frozen? ⟨A.heap.size, 0, none⟩ = false := fun A v ty => ⟨by simp, by simp⟩
  have hup : ∀ (A : World) (o : Obj) (c : Nat) (v : Value), A.cell? ⟨c, 0, none⟩ = some v ∧ A.frozen? ⟨c, 0, none⟩ = false → (A.alloc o).cell? ⟨c, 0, none⟩ = some v ∧ (A.alloc o).frozen? ⟨c, 0, none⟩ = false := fun A o c v h => by
    have k := below_alloc1 A o
    have hl : c < A.heap.size := block_lt_of_cell h.1
    exact ⟨(k.cell (p := ⟨c, 0, none⟩) hl).trans h.1, (k.frozen (p := ⟨c, 0, none⟩) hl).trans h.2⟩
  have hr0 : Hold w w.heap.size (.bool false) (fun _ => False) W0 := by
    have h := hup _ (.cells #[.func (.func 56) #[] #[]] 111) _ _ (hup _ (.cells #[.pointer (some ⟨d.b, d.o, none⟩)] 58) _ _ (hup _ (.cells #[.int .i64 1] 3) _ _ (hcell w (.bool false) 4)))
    rw [hW0] at h
    exact ⟨h.1, h.2, fun z => z, hB0, fun _ z => z.elim⟩
  have hc0 : Hold w (w.heap.size + 1) (.int .i64 1) (fun _ => False) W0 := by
    have h := hup _ (.cells #[.func (.func 56) #[] #[]] 111) _ _ (hup _ (.cells #[.pointer (some ⟨d.b, d.o, none⟩)] 58) _ _ (hcell (w.alloc (.cells #[.bool false] 4)) (.int .i64 1) 3))
    rw [hW0, World.size_alloc] at h
    exact ⟨h.1, h.2, fun z => z, hB0, fun _ z => z.elim⟩
  have hrb : W0.cell? ⟨w.heap.size + 1 + 1, 0, none⟩ = some d.ptr := by
    have h := hup _ (.cells #[.func (.func 56) #[] #[]] 111) _ _ (hcell ((w.alloc (.cells #[.bool false] 4)).alloc (.cells #[.int .i64 1] 3)) (.pointer (some ⟨d.b, d.o, none⟩)) 58)
    rw [hW0, World.size_alloc, World.size_alloc] at h
    exact h.1
  have hfb : W0.cell? ⟨w.heap.size + 1 + 1 + 1, 0, none⟩ = some (.func (.func 56) #[] #[]) := by
    have h := hcell (((w.alloc (.cells #[.bool false] 4)).alloc (.cells #[.int .i64 1] 3)).alloc (.cells #[.pointer (some ⟨d.b, d.o, none⟩)] 58)) (.func (.func 56) #[] #[]) 111
    rw [hW0, World.size_alloc, World.size_alloc, World.size_alloc] at h
    exact h.1
  have hdok0 : d.Ok W0 (fun b => b < w.heap.size) := hd.kept (Kept.of_below (S := fun b => b < w.heap.size) hB0 (fun b _ hb => hb)) (fun b hb => ⟨hb, hb⟩)
  have hLn : LL.length ≤ 16777216 := Nat.le_trans hpf.len hsz
  have hall : ∀ e ∈ LL, e.2.Ok w (fun b => b < w.heap.size) ∧ e.2.x.size ≤ 16777216 := by
    rw [hLL]
    exact pre_ok [d] 1 (fun n hn' => by rw [List.mem_singleton] at hn'; subst hn'; exact ⟨hd, hsz⟩)
  have hNL : (preL [d] 1).length = LL.length := by rw [hLL]
  have hseq := nodes_seq (n - 1) (by omega) (w.heap.size + 1 + 1) w.heap.size d W0 (w.heap.size + 1 + 1 + 1) hfb (by omega) hrb hdok0 hsz LL.length hNL hLn
  rw [← hLL] at hseq
  rw [hW0]
  clear hW0 hcell hup
  have fin : ∀ (D : Nat) (A : Act) (q : Bool) (V : World), (A = { tmps := A.tmps, defers := [{ target := .collected D, args := #[] }] } ∧ A.tmps[2]? = some (.pointer (some ⟨w.heap.size, 0, none⟩))) → W0.heap.size ≤ D → V.heap[D]? = some (.deferred (some [])) →
      V.cell? ⟨w.heap.size, 0, none⟩ = some (.bool q) → Below w.heap.size w V → (q = false ↔ (1 + sumT LL LL.length ≤ 20000 ∧ ∀ e, e ∈ LL → e.1 ≤ 1000)) → bodyPostM Fence.wide n Try.prog Try.f45 (fun e W' => Below w.heap.size w W' ∧ ∃ q : Bool, e = .returned (.bool q) ∧ (q = false ↔ (1 + sumT LL LL.length ≤ 20000 ∧ ∀ e, e ∈ LL → e.1 ≤ 1000))) .ret A V := by
    rintro D ⟨tm, df⟩ q V ⟨hA, h4⟩ hD hK hq bl hqq
    cases hA
    refine ⟨by simp, .inl ⟨_, _, rfl, run_takeDeferred hK, ?_⟩⟩
    have q' := ((Kept.putObj (fun c => c ≠ D) V D (.deferred none) (by simp)).cell (p := ⟨w.heap.size, 0, none⟩) (block_lt_of_cell hq) (by show w.heap.size ≠ D; omega)).trans hq
    exact ⟨.bool q, by simp [results, Try.results45, go_sem, h4, q'], bl.trans (belowK_b (w := w) (Nat.le_refl _) V D _ _ (by omega) hK rfl rfl), q, rfl, hqq⟩
  refine wpIn_range rfl h1 (gf := 63) (lb := #[.pointer (some ⟨w.heap.size + 1 + 1, 0, none⟩), .pointer (some ⟨w.heap.size + 1 + 1 + 1, 0, none⟩)]) rfl trivial (enters_of Try.func63 (by kernel_rfl) rfl)
    hseq (Below.refl _ _) (fun b hb => by rcases hb with hb | hb <;> omega) (fun _ => rfl)
    (SzI w LL) (SzX w LL) (SzI.abid _ _) (SzX.abid _ _) ⟨by simpa [sumT] using hc0, hr0, by simp [sumT], fun e he => absurd he (by simp)⟩
    (fun i O a' W => ∃ (dd : Nat) (x : Nd), LL[i]? = some (dd, x) ∧ a' = { tmps := #[.pointer (some ⟨d.b, d.o, none⟩), undef, .pointer (some ⟨w.heap.size, 0, none⟩), .pointer (some ⟨w.heap.size + 1, 0, none⟩), .int .i64 (dd : Int), .pointer (some ⟨x.b, x.o, none⟩), undef, undef, .pointer (some ⟨d.b, d.o, none⟩), .func (.func 63) #[] #[.pointer (some ⟨w.heap.size + 1 + 1, 0, none⟩), .pointer (some ⟨w.heap.size + 1 + 1 + 1, 0, none⟩)], .int .i64 (dd : Int), .pointer (some ⟨x.b, x.o, none⟩), undef, undef, undef, undef, undef, undef, undef, undef, undef, undef, undef, undef, undef, undef, undef, undef, undef, undef, undef, undef, undef, undef, undef, undef, undef, undef, undef, undef, undef, undef, undef, undef, undef, undef, undef, undef, undef, undef, undef, undef, undef, undef, undef, undef, undef, undef, undef, undef, undef, undef, undef, undef, undef, undef, undef], defers := [] })
    ?assign ?body ?done ?stop
  case assign =>
    intro l i O W K hi hNB hI hK
    obtain ⟨⟨dd, x⟩, hx⟩ : ∃ e, LL[i]? = some e := ⟨_, List.getElem?_eq_getElem hi⟩
    have hv : encsOf LL i = #[.int .i64 (dd : Int), .pointer (some ⟨x.b, x.o, none⟩)] := by
      unfold encsOf
      rw [List.getD_eq_getElem?_getD, hx]
      rfl
    have HK2 := hide (hK _ _ (Kept.refl _ W) hI ⟨dd, x, hx, rfl⟩)
    clear hK hI hx
    rw [hv]
    clear hv
    gi_wp2
    exact HK2.out
  case body =>
    rintro l i O a' W1 W hi ⟨dd, x, hx, rfl⟩ hkp hNB ⟨hc, hr, ht1, ht2⟩ hO
    have hxm : (dd, x) ∈ LL := List.mem_of_getElem? hx
    obtain ⟨hxok, hxsz⟩ := hall _ hxm
    have bW := hc.2.2.2.1
    obtain ⟨k, nm, mn, la, ln, lc, lk, na, nn, nc, nk, ka, kn, kc, kk, aa, an, ac, ak, hxe, -, -, h3, h4, h5, h6⟩ := core_open hxok.fit
    have hcel := hxok.cel
    have hsub := hxok.subs
    have hat := hxok.at_
    simp only at hcel hsub hat hxsz
    rw [hxe] at hcel hsub hxsz
    simp only [Fo.vals] at hcel
    obtain ⟨-, hs4, hs5, hs6, -⟩ := hsub
    have hnw : (rdK x.x).nw1 = kn + an + (if k = 6 ∨ k = 7 then nn else 0) + (rdA ak).an := by
      rw [hxe, rdK_nd, rdK_nil]
      simp only [Tm.nw1, rdK_len kn kk h5, rdA_len an ak h6, rdS_len h4]
    have hsu : sumT LL (i + 1) = sumT LL i + (rdK x.x).nw1 := sumT_succ hx
    have hmo := sumT_le LL (i + 1)
    have hlz : ∀ {n w : Nat} {F : Fo} {k' : Nat}, Fit E F (rep (E k') n) → (E k').length = w → 0 < w → n ≤ F.size := fun {n w F k'} h e hw => by
      have e1 := Fit.len h
      rw [rep_len, e] at e1
      have := F.len_le
      have := Nat.le_mul_of_pos_right n hw
      omega
    have z5 := hlz h5 rfl (by decide)
    have z6 := hlz h6 rfl (by decide)
    have z4 := hlz h4 rfl (by decide)
    have za := an_sz an ak h6
    simp only [Fo.size] at hxsz
    obtain ⟨C, hC⟩ : ∃ C, C = 1 + sumT LL i := ⟨_, rfl⟩
    rw [← hC] at hc
    have hCb : C ≤ 2251799813685249 := by have := Nat.mul_le_mul_right 134217728 (show i ≤ 16777216 by omega); omega
    have hK0 : ∀ V, Below w.heap.size w V → (V.cell? ⟨x.b, x.o + 5, none⟩ = some (.slice ka kn kc) ∧ V.cell? ⟨x.b, x.o + 6, none⟩ = some (.slice aa an ac)) ∧ V.cell? ⟨x.b, x.o, none⟩ = some (.int .i64 k) ∧ V.cell? ⟨x.b, x.o + 4, none⟩ = some (.slice na nn nc) := fun V bV => by
      have h := hcel.below bV hat
      exact ⟨⟨h 5 _ rfl, h 6 _ rfl⟩, by simpa using h 0 _ rfl, h 4 _ rfl⟩
    have HK0 := hide hK0
    obtain ⟨c1, c2, c3, c4, c5⟩ := id hc
    have kk0 := (hK0 W.drew c4.drew).1
    have hcs := (hc.set (.int .i64 (IntKind.i64.wrap ((C : Int) + IntKind.i64.wrap ((kn : Int) + (an : Int))))) (by omega)).drew
    have hrs := (hr.other (.int .i64 (IntKind.i64.wrap ((C : Int) + IntKind.i64.wrap ((kn : Int) + (an : Int))))) (d := w.heap.size + 1) (by omega) (by omega)).drew
    have kk1 := (hK0 _ hcs.2.2.2.1).1
    have HW1 : Hid (IntKind.i64.wrap ((C : Int) + IntKind.i64.wrap ((kn : Int) + (an : Int))) = ((C + (kn + an) : Nat) : Int)) := wr3 C kn an hCb (by omega) (by omega)
    have hkn : kn ≤ 16777216 ∧ an ≤ 16777216 ∧ nn ≤ 16777216 := ⟨by omega, by omega, by omega⟩
    have hk5 := hkn.1
    have ha5 := hkn.2.1
    have hn5 := hkn.2.2
    have HC := hide hC
    have HSU := hide hsu
    have HNW := hide hnw
    have HMO := hide hmo
    have HLL := hide hLL
    have HX := hide hx
    have HXE := hide hxe
    clear hC hsu hnw hmo hLL hx hxe hkn hcel hpf hseq hNL
    gi_wp2_with fail
    refine region_round (S := (fun V => V.cell? ⟨x.b, x.o + 5, none⟩ = some (.slice ka kn kc) ∧ V.cell? ⟨x.b, x.o + 6, none⟩ = some (.slice aa an ac))) (by kernel_rfl) (fun ⟨_, _, h⟩ => h) kk0 (fun hHeld => ?_)
    refine' wpAnyH_take (i := 1) (oi := { dst := some 13, op := Op.move (Operand.tmp 5), type := 58, pos := "l13_core.go:312", after := #[], guard := none }) (v := _) rfl (by kernel_rfl) (by kernel_rfl) (by kernel_rfl) (fun _ _ _ h => h) (Or.inl ⟨by rfl, ?hy1a⟩) (by assumption) ?rest1a
    case hy1a => (intro w hSw; (try dsimp only at hSw); go_simp; (try with_reducible rfl))
    try simp only [Act.put, List.setIfInBounds_toArray, List.set_cons_zero, List.set_cons_succ]
    refine' wpAnyH_take (i := 2) (oi := { dst := some 14, op := Op.nilCheck (Operand.tmp 13), type := 0, pos := "l13_core.go:312", after := #[{ on := 1, ground := Ground.data }], guard := none }) (v := _) rfl (by kernel_rfl) (by kernel_rfl) (by kernel_rfl) (fun _ _ _ h => h) (Or.inl ⟨by rfl, ?hy2a⟩) (by assumption) ?rest2a
    case hy2a => (intro w hSw; (try dsimp only at hSw); go_simp; (try with_reducible rfl))
    try simp only [Act.put, List.setIfInBounds_toArray, List.set_cons_zero, List.set_cons_succ]
    refine' wpAnyH_take (i := 3) (oi := { dst := some 15, op := Op.fieldAddr 36 (Operand.tmp 14) 4, type := 0, pos := "l13_core.go:312", after := #[{ on := 2, ground := Ground.data }], guard := none }) (v := _) rfl (by kernel_rfl) (by kernel_rfl) (by kernel_rfl) (fun _ _ _ h => h) (Or.inl ⟨by rfl, ?hy3a⟩) (by assumption) ?rest3a
    case hy3a => (intro w hSw; (try dsimp only at hSw); go_simp; (try with_reducible rfl))
    try simp only [Act.put, List.setIfInBounds_toArray, List.set_cons_zero, List.set_cons_succ]
    refine' wpAnyH_take (i := 4) (oi := { dst := some 16, op := Op.load 33 (Operand.tmp 15), type := 33, pos := "l13_core.go:312", after := #[{ on := 3, ground := Ground.data }], guard := none }) (v := _) rfl (by kernel_rfl) (by kernel_rfl) (by kernel_rfl) (fun _ _ _ h => h) (Or.inl ⟨by rfl, ?hy4a⟩) (by assumption) ?rest4a
    case hy4a => (intro w hSw; (try dsimp only at hSw); go_simp; (try with_reducible rfl))
    try simp only [Act.put, List.setIfInBounds_toArray, List.set_cons_zero, List.set_cons_succ]
    refine' wpAnyH_take (i := 5) (oi := { dst := some 17, op := Op.call { callee := Callee.builtin Builtin.len, args := #[Operand.tmp 16], argTypes := #[33] }, type := 3, pos := "l13_core.go:312", after := #[{ on := 4, ground := Ground.data }], guard := none }) (v := _) rfl (by kernel_rfl) (by kernel_rfl) (by kernel_rfl) (fun _ _ _ h => h) (Or.inl ⟨by rfl, ?hy5a⟩) (by assumption) ?rest5a
    case hy5a => (intro w hSw; (try dsimp only at hSw); go_simp; (try with_reducible rfl))
    try simp only [Act.put, List.setIfInBounds_toArray, List.set_cons_zero, List.set_cons_succ]
    refine' wpAnyH_take (i := 6) (oi := { dst := some 18, op := Op.move (Operand.tmp 5), type := 58, pos := "l13_core.go:312", after := #[], guard := none }) (v := _) rfl (by kernel_rfl) (by kernel_rfl) (by kernel_rfl) (fun _ _ _ h => h) (Or.inl ⟨by rfl, ?hy6a⟩) (by assumption) ?rest6a
    case hy6a => (intro w hSw; (try dsimp only at hSw); go_simp; (try with_reducible rfl))
    try simp only [Act.put, List.setIfInBounds_toArray, List.set_cons_zero, List.set_cons_succ]
    refine' wpAnyH_take (i := 7) (oi := { dst := some 19, op := Op.nilCheck (Operand.tmp 18), type := 0, pos := "l13_core.go:312", after := #[{ on := 6, ground := Ground.data }], guard := none }) (v := _) rfl (by kernel_rfl) (by kernel_rfl) (by kernel_rfl) (fun _ _ _ h => h) (Or.inl ⟨by rfl, ?hy7a⟩) (by assumption) ?rest7a
    case hy7a => (intro w hSw; (try dsimp only at hSw); go_simp; (try with_reducible rfl))
    try simp only [Act.put, List.setIfInBounds_toArray, List.set_cons_zero, List.set_cons_succ]
    refine' wpAnyH_take (i := 8) (oi := { dst := some 20, op := Op.fieldAddr 36 (Operand.tmp 19) 5, type := 0, pos := "l13_core.go:312", after := #[{ on := 7, ground := Ground.data }], guard := none }) (v := _) rfl (by kernel_rfl) (by kernel_rfl) (by kernel_rfl) (fun _ _ _ h => h) (Or.inl ⟨by rfl, ?hy8a⟩) (by assumption) ?rest8a
    case hy8a => (intro w hSw; (try dsimp only at hSw); go_simp; (try with_reducible rfl))
    try simp only [Act.put, List.setIfInBounds_toArray, List.set_cons_zero, List.set_cons_succ]
    refine' wpAnyH_take (i := 9) (oi := { dst := some 21, op := Op.load 34 (Operand.tmp 20), type := 34, pos := "l13_core.go:312", after := #[{ on := 8, ground := Ground.data }], guard := none }) (v := _) rfl (by kernel_rfl) (by kernel_rfl) (by kernel_rfl) (fun _ _ _ h => h) (Or.inl ⟨by rfl, ?hy9a⟩) (by assumption) ?rest9a
    case hy9a => (intro w hSw; (try dsimp only at hSw); go_simp; (try with_reducible rfl))
    try simp only [Act.put, List.setIfInBounds_toArray, List.set_cons_zero, List.set_cons_succ]
    refine' wpAnyH_take (i := 10) (oi := { dst := some 22, op := Op.call { callee := Callee.builtin Builtin.len, args := #[Operand.tmp 21], argTypes := #[34] }, type := 3, pos := "l13_core.go:312", after := #[{ on := 9, ground := Ground.data }], guard := none }) (v := _) rfl (by kernel_rfl) (by kernel_rfl) (by kernel_rfl) (fun _ _ _ h => h) (Or.inl ⟨by rfl, ?hy10a⟩) (by assumption) ?rest10a
    case hy10a => (intro w hSw; (try dsimp only at hSw); go_simp; (try with_reducible rfl))
    try simp only [Act.put, List.setIfInBounds_toArray, List.set_cons_zero, List.set_cons_succ]
    refine' wpAnyH_take (i := 11) (oi := { dst := some 23, op := Op.binOp BinOp.add 3 (Operand.tmp 17) (Operand.tmp 22) 3, type := 3, pos := "l13_core.go:312", after := #[{ on := 5, ground := Ground.data }, { on := 10, ground := Ground.data }], guard := none }) (v := _) rfl (by kernel_rfl) (by kernel_rfl) (by kernel_rfl) (fun _ _ _ h => h) (Or.inl ⟨by rfl, ?hy11a⟩) (by assumption) ?rest11a
    case hy11a => (intro w hSw; (try dsimp only at hSw); go_simp; (try with_reducible rfl))
    try simp only [Act.put, List.setIfInBounds_toArray, List.set_cons_zero, List.set_cons_succ]
    refine wpAnyH_ready (rs := [0]) (by kernel_rfl) (by simp) ?_
    refine AllReadyH.cons (o := { dst := some 12, op := Op.load 3 (Operand.tmp 3), type := 3, pos := "l13_core.go:312", after := #[], guard := none }) rfl (fun K hK => ?_) AllReadyH.nil
    go_simp
    refine hK.out _ _ hHeld (fun hHeld => ?_)
    clear hK K
    try simp only [Act.put, List.setIfInBounds_toArray, List.set_cons_zero, List.set_cons_succ]
    refine' wpAnyH_take (i := 12) (oi := { dst := some 24, op := Op.binOp BinOp.add 3 (Operand.tmp 12) (Operand.tmp 23) 3, type := 3, pos := "l13_core.go:312", after := #[{ on := 0, ground := Ground.data }, { on := 11, ground := Ground.data }], guard := none }) (v := _) rfl (by kernel_rfl) (by kernel_rfl) (by kernel_rfl) (fun _ _ _ h => h) (Or.inl ⟨by rfl, ?hy12a⟩) (by assumption) ?rest12a
    case hy12a => (intro w hSw; (try dsimp only at hSw); go_simp; (try with_reducible rfl))
    try simp only [Act.put, List.setIfInBounds_toArray, List.set_cons_zero, List.set_cons_succ]
    refine wpAnyH_ready (rs := [13]) (by kernel_rfl) (by simp) ?_
    refine AllReadyH.cons (o := { dst := none, op := Op.store 3 (Operand.tmp 3) (Operand.tmp 24), type := 0, pos := "l13_core.go:312", after := #[{ on := 12, ground := Ground.data }, { on := 0, ground := Ground.phase }, { on := 1, ground := Ground.phase }, { on := 2, ground := Ground.phase }, { on := 3, ground := Ground.phase }, { on := 4, ground := Ground.phase }, { on := 5, ground := Ground.phase }, { on := 6, ground := Ground.phase }, { on := 7, ground := Ground.phase }, { on := 8, ground := Ground.phase }, { on := 9, ground := Ground.phase }, { on := 10, ground := Ground.phase }, { on := 11, ground := Ground.phase }, { on := 12, ground := Ground.phase }], guard := none }) rfl (fun K hK => ?_) AllReadyH.nil
    go_simp
    refine hK.out _ _ kk1 (fun hHeld => ?_)
    clear hK K
    try simp only [Act.put, List.setIfInBounds_toArray, List.set_cons_zero, List.set_cons_succ]
    refine wpAnyH_done (by kernel_rfl) ?_ _
    have hw1 := HW1.out
    have HCS := hide hcs
    rw [hw1] at hcs hrs ⊢
    clear hw1 kk1 kk0
    obtain ⟨V, hV⟩ : ∃ V, (W.setCell ⟨w.heap.size + 1, 0, none⟩ (.int .i64 ((C + (kn + an) : Nat) : Int))).drew = V := ⟨_, rfl⟩
    rw [hV] at hcs hrs ⊢
    obtain ⟨M, hM⟩ : ∃ M, M = C + (kn + an) := ⟨_, rfl⟩
    rw [← hM] at hcs ⊢
    have HKA := hide hK0
    have HM := hide hM
    have hns1 : ¬ (O (w.heap.size + 1) ∨ w.heap.size + 1 < w.heap.size ∨ w.heap.size + 1 = w.heap.size + 1 + 1 + 1) := fun h => by
      rcases h with h | h | h
      · exact c3 h
      · omega
      · omega
    have hns0 : ¬ (O w.heap.size ∨ w.heap.size < w.heap.size ∨ w.heap.size = w.heap.size + 1 + 1 + 1) := fun h => by
      rcases h with h | h | h
      · exact hr.2.2.1 h
      · omega
      · omega
    have hkv : Kept (fun b => O b ∨ b < w.heap.size ∨ b = w.heap.size + 1 + 1 + 1) W V := by rw [← hV]; exact (Kept.setCell _ _ _ _ hns1).trans (Kept.drew _ _)
    have HKV := hide hkv
    have HN1 := hide hns1
    have HN0 := hide hns0
    clear hV hM hkv hns1 hns0
    clear hK0
    clear hkp hc hr c1 c2 c3 c4 c5 HCS HCO
    clear hHeld
    rename_i K1 hK1 hHe
    clear hHe
    refine hK1 _ _ ?_
    clear hK1 K1
    refine wpIn_seq_k (fun K2 hK2 => ?_)
    have HK2 : Hid (∀ (u12 u13 u14 u15 u16 u17 u18 u19 u20 u21 u22 u23 u24 u25 u26 u27 u28 u29 u30 : Value), M ≤ 20000 → dd ≤ 1000 → K2 { tmps := #[.pointer (some ⟨d.b, d.o, none⟩), undef, .pointer (some ⟨w.heap.size, 0, none⟩), .pointer (some ⟨w.heap.size + 1, 0, none⟩), .int .i64 (dd : Int), .pointer (some ⟨x.b, x.o, none⟩), undef, undef, .pointer (some ⟨d.b, d.o, none⟩), .func (.func 63) #[] #[.pointer (some ⟨w.heap.size + 1 + 1, 0, none⟩), .pointer (some ⟨w.heap.size + 1 + 1 + 1, 0, none⟩)], .int .i64 (dd : Int), .pointer (some ⟨x.b, x.o, none⟩), u12, u13, u14, u15, u16, u17, u18, u19, u20, u21, u22, u23, u24, u25, u26, u27, u28, u29, u30, undef, undef, undef, undef, undef, undef, undef, undef, undef, undef, undef, undef, undef, undef, undef, undef, undef, undef, undef, undef, undef, undef, undef, undef, undef, undef, undef, undef, undef, undef, undef, undef, undef, undef, undef, undef], defers := [] } V) := by
      intro u12 u13 u14 u15 u16 u17 u18 u19 u20 u21 u22 u23 u24 u25 u26 u27 u28 u29 u30 hM2 hd2
      refine hK2 _ _ ?_
      clear hK2 K2
      refine wpIn_seq_k (fun K3 hK3 => ?_)
      have HK3 : Hid (∀ (u12 u13 u14 u15 u16 u17 u18 u19 u20 u21 u22 u23 u24 u25 u26 u27 u28 u29 u30 u31 u32 u33 u34 u35 u36 u37 u38 u39 u40 u41 u42 u43 u44 u45 u46 u47 u48 u49 : Value) (V3 : World) (M3 : Nat), Hold w (w.heap.size + 1) (.int .i64 (M3 : Int)) O V3 → Hold w w.heap.size (.bool false) O V3 → Kept (fun b => O b ∨ b < w.heap.size ∨ b = w.heap.size + 1 + 1 + 1) V V3 → M3 = M + (if k = 6 ∨ k = 7 then nn else 0) → K3 { tmps := #[.pointer (some ⟨d.b, d.o, none⟩), undef, .pointer (some ⟨w.heap.size, 0, none⟩), .pointer (some ⟨w.heap.size + 1, 0, none⟩), .int .i64 (dd : Int), .pointer (some ⟨x.b, x.o, none⟩), undef, undef, .pointer (some ⟨d.b, d.o, none⟩), .func (.func 63) #[] #[.pointer (some ⟨w.heap.size + 1 + 1, 0, none⟩), .pointer (some ⟨w.heap.size + 1 + 1 + 1, 0, none⟩)], .int .i64 (dd : Int), .pointer (some ⟨x.b, x.o, none⟩), u12, u13, u14, u15, u16, u17, u18, u19, u20, u21, u22, u23, u24, u25, u26, u27, u28, u29, u30, u31, u32, u33, u34, u35, u36, u37, u38, u39, u40, u41, u42, u43, u44, u45, u46, u47, u48, u49, undef, undef, undef, undef, undef, undef, undef, undef, undef, undef, undef, undef, undef, undef, undef, undef, undef], defers := [] } V3) := by
        intro u12 u13 u14 u15 u16 u17 u18 u19 u20 u21 u22 u23 u24 u25 u26 u27 u28 u29 u30 u31 u32 u33 u34 u35 u36 u37 u38 u39 u40 u41 u42 u43 u44 u45 u46 u47 u48 u49 V3 M3 g1 g2 hkk g3
        have HKK := hide hkk
        clear hkk
        refine hK3 _ _ ?_
        clear hK3 K3 hcs hrs
        have hv := HK0.out V3 g1.2.2.2.1
        have v6 := hv.1.2
        have hR0 : Rd E (E 2) an w.heap.size aa 0 ak V3 := (Rd.start h6 hs6).below g1.2.2.2.1 (Nat.le_refl _)
        have HR0 := hide hR0
        have HG1 := hide g1
        have HG2 := hide g2
        have HG3 := hide g3
        have hM3 : M3 ≤ 16797216 := by split at g3 <;> omega
        clear hv hR0 g1 g2 g3
        obtain ⟨AN, hAN⟩ : ∃ y, y = (rdA ak).an := ⟨_, rfl⟩
        have HAN := hide hAN
        rw [← hAN] at za
        clear hAN
        gi_wp2_with fail
        gi_loopw [55] (fun s55 wr => ∃ (j : Nat) (r : Fo) (cur : Nat), s55 = .int .i64 j ∧ j ≤ an ∧ Hid (cur + (rdA r).an = M3 + AN ∧ r.size ≤ ak.size) ∧ Hid (Rd E (E 2) an w.heap.size aa j r wr) ∧ Hid (Kept (fun b => O b ∨ b < w.heap.size ∨ b = w.heap.size + 1 + 1 + 1) V3 wr) ∧ Hid (Hold w (w.heap.size + 1) (.int .i64 (cur : Int)) O wr) ∧ Hid (Hold w w.heap.size (.bool false) O wr)) (fun s55 _ => an - (intOf s55).toNat)
        case atStart => exact ⟨0, ak, M3, rfl, Nat.zero_le _, ⟨by rw [HAN.out], Nat.le_refl _⟩, HR0, Kept.refl _ _, HG1, HG2⟩
        case round =>
          obtain ⟨j, r, cur, rfl, hjn, hcu, hRd, hK, hg1, hg2⟩ := hrel
          by_cases hj : j < an
          · obtain ⟨y, rr, b, o, rfl, hy, rfl, hb, hcy, -, hR1⟩ := hRd.out.next hj (by decide)
            have hjj : (j : Int) < an := by omega
            obtain ⟨con, ca, cn, cc, ck, z, rfl, -, -, han, -⟩ := anA_app hy rr
            obtain ⟨con', ca', cn', cc', ck', z', he, -, -, hz⟩ := alt_open hy
            injection he with he1 he2
            injection he2 with he3 he4 he5 he6 he7
            subst he7
            obtain ⟨k8, nm8, mn8, la8, ln8, lc8, lk8, na8, nn8, nc8, nk8, ka8, kn8, kc8, kk8, aa8, an8, ac8, ak8, rfl, -⟩ := core_open hz
            simp only [Fo.vals] at hcy
            have e0 : wr.cell? ⟨b, o + j * 9, none⟩ = some (.string con) := hcy 0 _ rfl
            have e1 : wr.cell? ⟨b, o + j * 9 + 1, none⟩ = some (.slice ca cn cc) := hcy 1 _ rfl
            have e2 : wr.cell? ⟨b, o + j * 9 + 2, none⟩ = some (.int .i64 k8) := hcy 2 _ rfl
            have e3 : wr.cell? ⟨b, o + j * 9 + 3, none⟩ = some (.string nm8) := hcy 3 _ rfl
            have e4 : wr.cell? ⟨b, o + j * 9 + 4, none⟩ = some (.bool mn8) := hcy 4 _ rfl
            have e5 : wr.cell? ⟨b, o + j * 9 + 5, none⟩ = some (.slice la8 ln8 lc8) := hcy 5 _ rfl
            have e6 : wr.cell? ⟨b, o + j * 9 + 6, none⟩ = some (.slice na8 nn8 nc8) := hcy 6 _ rfl
            have e7 : wr.cell? ⟨b, o + j * 9 + 7, none⟩ = some (.slice ka8 kn8 kc8) := hcy 7 _ rfl
            have e8 : wr.cell? ⟨b, o + j * 9 + 8, none⟩ = some (.slice aa8 an8 ac8) := hcy 8 _ rfl
            have HR1 := hide hR1
            obtain ⟨m1, m2, m3, m4, m5⟩ := id hg1.out
            obtain ⟨hce, hcl⟩ := hcu.out
            rw [han] at hce
            rw [Fo.app_size] at hcl
            have hrl := an_sz _ _ HR1.out.fit
            have hcb : cur ≤ 33574432 ∧ cn ≤ 33574432 := ⟨by omega, by omega⟩
            have hcb1 := hcb.1
            have hcb2 := hcb.2
            have kB := below_alloc1 wr (.cells #[.string con, .slice ca cn cc, .int .i64 k8, .string nm8, .bool mn8, .slice la8 ln8 lc8, .slice na8 nn8 nc8, .slice ka8 kn8 kc8, .slice aa8 an8 ac8] 82)
            obtain ⟨q1, q2, -⟩ := id (hg1.out.next kB)
            have gg1 := ((hg1.out.next kB).set (.int .i64 ((cur : Int) + (cn : Int))) (by omega))
            have gg2 := ((hg2.out.next kB).other (.int .i64 ((cur : Int) + (cn : Int))) (d := w.heap.size + 1) (by omega) (by omega))
            have hcn : ((cur : Int) + (cn : Int)) = ((cur + cn : Nat) : Int) := by omega
            have ggB := gg1.2.2.2.1
            rw [hcn] at gg1 gg2
            have HE1 : Hid ((cur + cn) + (rdA rr).an = M3 + AN ∧ rr.size ≤ ak.size) := ⟨by omega, by omega⟩
            have kk := (hK.out.trans (Kept.of_below (S := (fun b => O b ∨ b < w.heap.size ∨ b = w.heap.size + 1 + 1 + 1)) kB (fun b hb _ => hb))).trans (Kept.setCell _ _ ⟨w.heap.size + 1, 0, none⟩ (.int .i64 ((cur : Int) + (cn : Int))) HN1.out)
            have HCN := hide hcn
            have hR2 := (HR1.out.below kB (by have := m4.size; omega)).below ((Below.refl w.heap.size _).setCell (p := ⟨w.heap.size + 1, 0, none⟩) (by simp) (.int .i64 ((cur : Int) + (cn : Int)))) (Nat.le_refl _)
            have HP1 : Hid (Hold w (w.heap.size + 1) (.int .i64 ((cur + cn : Nat) : Int)) O ((wr.alloc (.cells #[.string con, .slice ca cn cc, .int .i64 k8, .string nm8, .bool mn8, .slice la8 ln8 lc8, .slice na8 nn8 nc8, .slice ka8 kn8 kc8, .slice aa8 an8 ac8] 82)).setCell ⟨w.heap.size + 1, 0, none⟩ (.int .i64 ((cur : Int) + (cn : Int))))) := by
              unfold Hid
              rw [hcn]
              exact gg1
            have HP2 : Hid (Hold w w.heap.size (.bool false) O ((wr.alloc (.cells #[.string con, .slice ca cn cc, .int .i64 k8, .string nm8, .bool mn8, .slice la8 ln8 lc8, .slice na8 nn8 nc8, .slice ka8 kn8 kc8, .slice aa8 an8 ac8] 82)).setCell ⟨w.heap.size + 1, 0, none⟩ (.int .i64 ((cur : Int) + (cn : Int))))) := by
              unfold Hid
              rw [hcn]
              exact gg2
            have HP3 := hide hR2
            have HP4 := hide kk
            clear hR1 hcy hy hz he1 he3 he4 he5 he6 hRd hce hcl hrl hcb gg1 gg2 hcn ggB kk hR2 han hcu
            gi_wp2_with fail
            go_roundw
            case rel => exact ⟨j + 1, rr, cur + cn, by go_num, by omega, HE1, HP3, HP4, HP1, HP2⟩
            case measure => simp [intOf]; omega
          · obtain ⟨rfl, rfl⟩ := hRd.out.done hj
            have hjj : ¬ (j : Int) < j := by omega
            have hce := hcu.out.1
            rw [rdA_nil] at hce
            have HEN : Hid (roundOwn (fun b => b < w.heap.size ∨ b = w.heap.size + 1 + 1 + 1) (SzI w LL) (SzX w LL) i O W .normal { tmps := #[], defers := [] } wr) := by
              refine ⟨HKV.out.trans (HKK.out.trans hK.out), ?_⟩
              have e1 := HM.out
              have e2 := HC.out
              have e3 := HSU.out
              have e4 := HNW.out
              have e5 := HG3.out
              have e6 := HAN.out
              have e7 : cur = 1 + sumT LL (i + 1) := by
                rw [← e6] at e4
                generalize (if k = 6 ∨ k = 7 then nn else 0) = g at e4 e5
                simp only [Tm.an] at hce
                omega
              rw [e7] at hg1
              refine ⟨hg1.out, hg2.out, ?_, ?_⟩
              · have := ht1
                omega
              · intro e he
                rw [List.take_add_one, HX.out, List.mem_append] at he
                rcases he with he | he
                · exact ht2 e he
                · simp only [Option.toList_some, List.mem_singleton] at he
                  subst he
                  exact hd2
            clear hcu hRd hce
            gi_wp2_with fail
            exact HEN.out
      clear hK3
      obtain ⟨m1, m2, m3, m4, m5⟩ := id hcs
      have hv := HK0.out V m4
      have v0 := hv.2.1
      have v4 := hv.2.2
      have v4d := (HK0.out V.drew m4.drew).2.2
      have hc4 := (hcs.set (.int .i64 (IntKind.i64.wrap ((M : Int) + (nn : Int)))) (by omega)).drew
      have hr4 := (hrs.other (.int .i64 (IntKind.i64.wrap ((M : Int) + (nn : Int)))) (d := w.heap.size + 1) (by omega) (by omega)).drew
      have kk4 := (HK0.out _ hc4.2.2.2.1).2.2
      have hw2 := wr2 M nn (by omega) (by omega)
      have HW2 := hide hw2
      clear hw2
      have HK4 : Hid (Kept (fun b => O b ∨ b < w.heap.size ∨ b = w.heap.size + 1 + 1 + 1) V (V.setCell ⟨w.heap.size + 1, 0, none⟩ (.int .i64 ((M + nn : Nat) : Int))).drew) := (Kept.setCell _ _ _ _ HN1.out).trans (Kept.drew _ _)
      have HV := hide hv
      clear hv
      gi_wp2_with fail
      · refine region_round (S := (fun V => V.cell? ⟨x.b, x.o + 4, none⟩ = some (.slice na nn nc))) (by kernel_rfl) (fun ⟨_, _, h⟩ => h) v4d (fun hHeld => ?_)
        refine' wpAnyH_take (i := 1) (oi := { dst := some 44, op := Op.move (Operand.tmp 5), type := 58, pos := "l13_core.go:317", after := #[], guard := none }) (v := _) rfl (by kernel_rfl) (by kernel_rfl) (by kernel_rfl) (fun _ _ _ h => h) (Or.inl ⟨by rfl, ?hy1b⟩) (by assumption) ?rest1b
        case hy1b => (intro w hSw; (try dsimp only at hSw); go_simp; (try with_reducible rfl))
        try simp only [Act.put, List.setIfInBounds_toArray, List.set_cons_zero, List.set_cons_succ]
        refine' wpAnyH_take (i := 2) (oi := { dst := some 45, op := Op.nilCheck (Operand.tmp 44), type := 0, pos := "l13_core.go:317", after := #[{ on := 1, ground := Ground.data }], guard := none }) (v := _) rfl (by kernel_rfl) (by kernel_rfl) (by kernel_rfl) (fun _ _ _ h => h) (Or.inl ⟨by rfl, ?hy2b⟩) (by assumption) ?rest2b
        case hy2b => (intro w hSw; (try dsimp only at hSw); go_simp; (try with_reducible rfl))
        try simp only [Act.put, List.setIfInBounds_toArray, List.set_cons_zero, List.set_cons_succ]
        refine' wpAnyH_take (i := 3) (oi := { dst := some 46, op := Op.fieldAddr 36 (Operand.tmp 45) 3, type := 0, pos := "l13_core.go:317", after := #[{ on := 2, ground := Ground.data }], guard := none }) (v := _) rfl (by kernel_rfl) (by kernel_rfl) (by kernel_rfl) (fun _ _ _ h => h) (Or.inl ⟨by rfl, ?hy3b⟩) (by assumption) ?rest3b
        case hy3b => (intro w hSw; (try dsimp only at hSw); go_simp; (try with_reducible rfl))
        try simp only [Act.put, List.setIfInBounds_toArray, List.set_cons_zero, List.set_cons_succ]
        refine' wpAnyH_take (i := 4) (oi := { dst := some 47, op := Op.load 25 (Operand.tmp 46), type := 25, pos := "l13_core.go:317", after := #[{ on := 3, ground := Ground.data }], guard := none }) (v := _) rfl (by kernel_rfl) (by kernel_rfl) (by kernel_rfl) (fun _ _ _ h => h) (Or.inl ⟨by rfl, ?hy4b⟩) (by assumption) ?rest4b
        case hy4b => (intro w hSw; (try dsimp only at hSw); go_simp; (try with_reducible rfl))
        try simp only [Act.put, List.setIfInBounds_toArray, List.set_cons_zero, List.set_cons_succ]
        refine' wpAnyH_take (i := 5) (oi := { dst := some 48, op := Op.call { callee := Callee.builtin Builtin.len, args := #[Operand.tmp 47], argTypes := #[25] }, type := 3, pos := "l13_core.go:317", after := #[{ on := 4, ground := Ground.data }], guard := none }) (v := _) rfl (by kernel_rfl) (by kernel_rfl) (by kernel_rfl) (fun _ _ _ h => h) (Or.inl ⟨by rfl, ?hy5b⟩) (by assumption) ?rest5b
        case hy5b => (intro w hSw; (try dsimp only at hSw); go_simp; (try with_reducible rfl))
        try simp only [Act.put, List.setIfInBounds_toArray, List.set_cons_zero, List.set_cons_succ]
        refine wpAnyH_ready (rs := [0]) (by kernel_rfl) (by simp) ?_
        refine AllReadyH.cons (o := { dst := some 43, op := Op.load 3 (Operand.tmp 3), type := 3, pos := "l13_core.go:317", after := #[], guard := none }) rfl (fun K hK => ?_) AllReadyH.nil
        go_simp
        refine hK.out _ _ hHeld (fun hHeld => ?_)
        clear hK K
        try simp only [Act.put, List.setIfInBounds_toArray, List.set_cons_zero, List.set_cons_succ]
        refine' wpAnyH_take (i := 6) (oi := { dst := some 49, op := Op.binOp BinOp.add 3 (Operand.tmp 43) (Operand.tmp 48) 3, type := 3, pos := "l13_core.go:317", after := #[{ on := 0, ground := Ground.data }, { on := 5, ground := Ground.data }], guard := none }) (v := _) rfl (by kernel_rfl) (by kernel_rfl) (by kernel_rfl) (fun _ _ _ h => h) (Or.inl ⟨by rfl, ?hy6b⟩) (by assumption) ?rest6b
        case hy6b => (intro w hSw; (try dsimp only at hSw); go_simp; (try with_reducible rfl))
        try simp only [Act.put, List.setIfInBounds_toArray, List.set_cons_zero, List.set_cons_succ]
        refine wpAnyH_ready (rs := [7]) (by kernel_rfl) (by simp) ?_
        refine AllReadyH.cons (o := { dst := none, op := Op.store 3 (Operand.tmp 3) (Operand.tmp 49), type := 0, pos := "l13_core.go:317", after := #[{ on := 6, ground := Ground.data }, { on := 0, ground := Ground.phase }, { on := 1, ground := Ground.phase }, { on := 2, ground := Ground.phase }, { on := 3, ground := Ground.phase }, { on := 4, ground := Ground.phase }, { on := 5, ground := Ground.phase }, { on := 6, ground := Ground.phase }], guard := none }) rfl (fun K hK => ?_) AllReadyH.nil
        go_simp
        refine hK.out _ _ kk4 (fun hHeld => ?_)
        clear hK K
        try simp only [Act.put, List.setIfInBounds_toArray, List.set_cons_zero, List.set_cons_succ]
        refine wpAnyH_done (by kernel_rfl) ?_ _
        have hw2 := HW2.out
        rw [hw2] at hc4 hr4 ⊢
        exact HK3.out _ _ _ _ _ _ _ _ _ _ _ _ _ _ _ _ _ _ _ _ _ _ _ _ _ _ _ _ _ _ _ _ _ _ _ _ _ _ _ _ hc4 hr4 HK4.out (by rw [if_pos (Or.inl (by assumption))])
      · refine region_round (S := (fun V => V.cell? ⟨x.b, x.o + 4, none⟩ = some (.slice na nn nc))) (by kernel_rfl) (fun ⟨_, _, h⟩ => h) v4d (fun hHeld => ?_)
        refine' wpAnyH_take (i := 1) (oi := { dst := some 44, op := Op.move (Operand.tmp 5), type := 58, pos := "l13_core.go:317", after := #[], guard := none }) (v := _) rfl (by kernel_rfl) (by kernel_rfl) (by kernel_rfl) (fun _ _ _ h => h) (Or.inl ⟨by rfl, ?hy1c⟩) (by assumption) ?rest1c
        case hy1c => (intro w hSw; (try dsimp only at hSw); go_simp; (try with_reducible rfl))
        try simp only [Act.put, List.setIfInBounds_toArray, List.set_cons_zero, List.set_cons_succ]
        refine' wpAnyH_take (i := 2) (oi := { dst := some 45, op := Op.nilCheck (Operand.tmp 44), type := 0, pos := "l13_core.go:317", after := #[{ on := 1, ground := Ground.data }], guard := none }) (v := _) rfl (by kernel_rfl) (by kernel_rfl) (by kernel_rfl) (fun _ _ _ h => h) (Or.inl ⟨by rfl, ?hy2c⟩) (by assumption) ?rest2c
        case hy2c => (intro w hSw; (try dsimp only at hSw); go_simp; (try with_reducible rfl))
        try simp only [Act.put, List.setIfInBounds_toArray, List.set_cons_zero, List.set_cons_succ]
        refine' wpAnyH_take (i := 3) (oi := { dst := some 46, op := Op.fieldAddr 36 (Operand.tmp 45) 3, type := 0, pos := "l13_core.go:317", after := #[{ on := 2, ground := Ground.data }], guard := none }) (v := _) rfl (by kernel_rfl) (by kernel_rfl) (by kernel_rfl) (fun _ _ _ h => h) (Or.inl ⟨by rfl, ?hy3c⟩) (by assumption) ?rest3c
        case hy3c => (intro w hSw; (try dsimp only at hSw); go_simp; (try with_reducible rfl))
        try simp only [Act.put, List.setIfInBounds_toArray, List.set_cons_zero, List.set_cons_succ]
        refine' wpAnyH_take (i := 4) (oi := { dst := some 47, op := Op.load 25 (Operand.tmp 46), type := 25, pos := "l13_core.go:317", after := #[{ on := 3, ground := Ground.data }], guard := none }) (v := _) rfl (by kernel_rfl) (by kernel_rfl) (by kernel_rfl) (fun _ _ _ h => h) (Or.inl ⟨by rfl, ?hy4c⟩) (by assumption) ?rest4c
        case hy4c => (intro w hSw; (try dsimp only at hSw); go_simp; (try with_reducible rfl))
        try simp only [Act.put, List.setIfInBounds_toArray, List.set_cons_zero, List.set_cons_succ]
        refine' wpAnyH_take (i := 5) (oi := { dst := some 48, op := Op.call { callee := Callee.builtin Builtin.len, args := #[Operand.tmp 47], argTypes := #[25] }, type := 3, pos := "l13_core.go:317", after := #[{ on := 4, ground := Ground.data }], guard := none }) (v := _) rfl (by kernel_rfl) (by kernel_rfl) (by kernel_rfl) (fun _ _ _ h => h) (Or.inl ⟨by rfl, ?hy5c⟩) (by assumption) ?rest5c
        case hy5c => (intro w hSw; (try dsimp only at hSw); go_simp; (try with_reducible rfl))
        try simp only [Act.put, List.setIfInBounds_toArray, List.set_cons_zero, List.set_cons_succ]
        refine wpAnyH_ready (rs := [0]) (by kernel_rfl) (by simp) ?_
        refine AllReadyH.cons (o := { dst := some 43, op := Op.load 3 (Operand.tmp 3), type := 3, pos := "l13_core.go:317", after := #[], guard := none }) rfl (fun K hK => ?_) AllReadyH.nil
        go_simp
        refine hK.out _ _ hHeld (fun hHeld => ?_)
        clear hK K
        try simp only [Act.put, List.setIfInBounds_toArray, List.set_cons_zero, List.set_cons_succ]
        refine' wpAnyH_take (i := 6) (oi := { dst := some 49, op := Op.binOp BinOp.add 3 (Operand.tmp 43) (Operand.tmp 48) 3, type := 3, pos := "l13_core.go:317", after := #[{ on := 0, ground := Ground.data }, { on := 5, ground := Ground.data }], guard := none }) (v := _) rfl (by kernel_rfl) (by kernel_rfl) (by kernel_rfl) (fun _ _ _ h => h) (Or.inl ⟨by rfl, ?hy6c⟩) (by assumption) ?rest6c
        case hy6c => (intro w hSw; (try dsimp only at hSw); go_simp; (try with_reducible rfl))
        try simp only [Act.put, List.setIfInBounds_toArray, List.set_cons_zero, List.set_cons_succ]
        refine wpAnyH_ready (rs := [7]) (by kernel_rfl) (by simp) ?_
        refine AllReadyH.cons (o := { dst := none, op := Op.store 3 (Operand.tmp 3) (Operand.tmp 49), type := 0, pos := "l13_core.go:317", after := #[{ on := 6, ground := Ground.data }, { on := 0, ground := Ground.phase }, { on := 1, ground := Ground.phase }, { on := 2, ground := Ground.phase }, { on := 3, ground := Ground.phase }, { on := 4, ground := Ground.phase }, { on := 5, ground := Ground.phase }, { on := 6, ground := Ground.phase }], guard := none }) rfl (fun K hK => ?_) AllReadyH.nil
        go_simp
        refine hK.out _ _ kk4 (fun hHeld => ?_)
        clear hK K
        try simp only [Act.put, List.setIfInBounds_toArray, List.set_cons_zero, List.set_cons_succ]
        refine wpAnyH_done (by kernel_rfl) ?_ _
        have hw2 := HW2.out
        rw [hw2] at hc4 hr4 ⊢
        exact HK3.out _ _ _ _ _ _ _ _ _ _ _ _ _ _ _ _ _ _ _ _ _ _ _ _ _ _ _ _ _ _ _ _ _ _ _ _ _ _ _ _ hc4 hr4 HK4.out (by rename_i e1 e2 e3 e4; rw [if_pos (e2.elim (fun h => Or.inl (eq_of_beq h)) (fun h => Or.inr (eq_of_beq h)))])
      · exact HK3.out _ _ _ _ _ _ _ _ _ _ _ _ _ _ _ _ _ _ _ _ _ _ _ _ _ _ _ _ _ _ _ _ _ _ _ _ _ _ _ _ hcs hrs (Kept.refl _ _) (by rename_i e1 e2; rw [if_neg (fun h => h.elim e1 (fun h => absurd e2.2 (by rw [h]; decide)))]; omega)
    clear hK2
    obtain ⟨m1, m2, m3, m4, m5⟩ := id hcs
    obtain ⟨r1, r2, r3, r4, r5⟩ := id hrs
    have HB1 : Hid (20000 < M ∨ 1000 < dd → Kept (fun b => O b ∨ b < w.heap.size ∨ b = w.heap.size + 1 + 1 + 1) W (V.setCell ⟨w.heap.size, 0, none⟩ (.bool true)) ∧ SzX w LL .ret i O (V.setCell ⟨w.heap.size, 0, none⟩ (.bool true))) := fun hh => by
      refine ⟨HKV.out.trans (Kept.setCell _ _ _ _ HN0.out), rfl, hrs.set (.bool true) (Nat.le_refl _), fun h => ?_⟩
      have e1 := HM.out
      have e2 := HC.out
      have e3 := HSU.out
      have e4 := HNW.out
      have e5 := HMO.out
      generalize (if k = 6 ∨ k = 7 then nn else 0) = g at e4
      rcases hh with hh | hh
      · have := h.1
        omega
      · have : dd ≤ 1000 := h.2 _ hxm
        omega
    gi_wp2_with fail
    all_goals first
      | exact HB1.out (by omega)
      | exact HK2.out _ _ _ _ _ _ _ _ _ _ _ _ _ _ _ _ _ _ _ (by omega) (by omega)
  case done =>
    rintro D O W hD hOD hO ⟨i1, i2, -, i4⟩ hK
    rw [List.take_length] at i4
    obtain ⟨C, hC⟩ : ∃ C, C = 1 + sumT LL LL.length := ⟨_, rfl⟩
    rw [← hC] at i1
    obtain ⟨c1, c2, c3, c4, c5⟩ := id i1
    obtain ⟨r1, r2, r3, r4, r5⟩ := id i2
    have hDl : D < W.heap.size := (Array.getElem?_eq_some_iff.1 hK).1
    have HF : Hid (∀ (A : Act) (q : Bool), (A = { tmps := A.tmps, defers := [{ target := .collected D, args := #[] }] } ∧ A.tmps[2]? = some (.pointer (some ⟨w.heap.size, 0, none⟩))) → q = decide (20000 < (C : Int)) → bodyPostM Fence.wide n Try.prog Try.f45 (fun e W' => Below w.heap.size w W' ∧ ∃ q : Bool, e = .returned (.bool q) ∧ (q = false ↔ (1 + sumT LL LL.length ≤ 20000 ∧ ∀ e, e ∈ LL → e.1 ≤ 1000))) .ret A (W.setCell ⟨w.heap.size, 0, none⟩ (.bool q))) := fun A q hA hq => by
      have hs := i2.set (.bool q) (Nat.le_refl _)
      refine fin D A q _ hA hD ?_ hs.1 hs.2.2.2.1 ?_
      · exact ((Kept.setCell (fun c => c ≠ w.heap.size) W ⟨w.heap.size, 0, none⟩ (.bool q) (by simp)).block D hDl (by show D ≠ _; omega)).trans hK
      · subst hq
        rw [decide_eq_false_iff_not, ← hC]
        constructor
        · intro h
          exact ⟨by omega, i4⟩
        · intro h
          have := h.1
          omega
    clear fin hC hLL hpf hseq
    gi_wp2_with fail

    exact HF.out _ _ ⟨rfl, rfl⟩ rfl
  case stop =>
    rintro D c i O W hD hOD hO _ ⟨rfl, i2, i3⟩ hK
    have HF := hide (fun A hA => fin D A true W hA hD hK i2.1 i2.2.2.2.1 ⟨fun h => absurd h (by decide), fun h => absurd h i3⟩)
    clear fin hLL hpf hseq
    gi_wp2_with fail

    exact HF.out _ ⟨rfl, rfl⟩

end Go.Proofs.Ytcnokpaicnjkfaa
