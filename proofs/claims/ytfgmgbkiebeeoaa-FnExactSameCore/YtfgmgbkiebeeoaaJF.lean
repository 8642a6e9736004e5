import Derived.Test.YtfgmgbkiebeeoaaJB
import Derived.Test.YtfgmgbkiebeeoaaJE
import Derived.Test.YtfgmgbkiebeeoaaJC
import Derived.Deep.LoopGhost
namespace Go.Proofs.Ytfgmgbkiebeeoaa.A
open Go.RowKit Go.Joins
variable {O : Nat → Nat}

set_option maxHeartbeats 4000000 in
set_option maxRecDepth 100000 in
/-- The number of a thing. -/
theorem i_number {lo G : Nat} {V : World} {K : List (Nat × Nat)} {mv sv : Value} {fs : Nat → Int} (h : GS O lo G V K K mv sv fs) (hn : (K.map Prod.fst).Nodup) {i j : Nat} {e : Nat × Nat} (he : K[i]? = some e) (hj : j < e.2) (hl : K.length ≤ 10000000) (hf : 0 ≤ fs i ∧ fs i ≤ 10000000) (he2 : e.2 ≤ 10000000) :
    Calls Try.prog 60 #[.pointer (some ⟨G, 4, none⟩), .pointer (some ⟨e.1, O e.1 + j * 9, none⟩)] V fun r V' => r = .returned (.int .i64 (fs i + j)) ∧ Kept (fun _ => True) V V' := by
  have hi : i < K.length := (List.getElem?_eq_some_iff.1 he).1
  obtain ⟨M, rfl, hM⟩ : ∃ M, mv = .map (some M) ∧ MP V M (ents O 0 K) := by
    rcases h.mp with ⟨h1, -⟩ | ⟨M, h1, h2, -⟩
    · rw [h1] at hi; simp at hi
    · exact ⟨M, h1, h2⟩
  have rl : (Instr.lookup 68 (.map (some M)) (.pointer (some ⟨e.1, O e.1 + j * 9, none⟩)) false).run Try.prog V = .ok (.agg #[.int .i64 i, .int .i64 j]) V := MP.hitA hM (fun p hp => by
    obtain ⟨k, e', e1, e2, -⟩ := ents_mem 0 _ p hp
    rw [e2]
    exact (h.lv e' (List.mem_of_getElem? e1)).1) (e.1, O e.1 + j * 9) (h.lv e (List.mem_of_getElem? he)).1 (ents_get hn he hj) false
  have c0 := h.gm
  have HW := hide (i_whole h i j hi hl)
  obtain ⟨b, cap, rfl, -, -, hcap⟩ := h.slice (by omega)
  have hic : i < cap := by omega
  have HFA : Hid (∀ V', Kept (fun _ => True) V V' → V'.cell? ⟨G, 5, none⟩ = some (.slice (some ⟨b, 0, none⟩) K.length cap) ∧ (V'.cell? ⟨b, i * 5, none⟩ = some (.int .i64 i) ∧ V'.cell? ⟨b, i * 5 + 1, none⟩ = some (.int .i64 0) ∧ V'.cell? ⟨b, i * 5 + 2, none⟩ = some (.int .i64 0) ∧ V'.cell? ⟨b, i * 5 + 3, none⟩ = some (.int .i64 e.2) ∧ V'.cell? ⟨b, i * 5 + 4, none⟩ = some (.int .i64 (fs i)))) := fun V' k => by
    have h' := h.kept k
    exact ⟨h'.gs, ownsRow_cell h'.ow (i * 5) _ (strs_get fs he (j := 0) rfl), ownsRow_cell h'.ow (i * 5 + 1) _ (strs_get fs he (j := 1) rfl), ownsRow_cell h'.ow (i * 5 + 2) _ (strs_get fs he (j := 2) rfl), ownsRow_cell h'.ow (i * 5 + 3) _ (strs_get fs he (j := 3) rfl), ownsRow_cell h'.ow (i * 5 + 4) _ (strs_get fs he (j := 4) rfl)⟩
  obtain ⟨n, hnn⟩ : ∃ n, K.length = n := ⟨_, rfl⟩
  rw [hnn] at HFA hi hcap
  obtain ⟨f, hff⟩ : ∃ f, fs i = f := ⟨_, rfl⟩
  rw [hff] at HFA hf ⊢
  obtain ⟨e1, e2⟩ := e
  dsimp only at rl hj he2 HFA ⊢
  have hf1 := hf.1
  have hf2 := hf.2
  have hij : (i : Int) < (n : Int) := by omega
  clear h hn he hl hM hf hff hnn
  go_enter Try.func60, Try.ntmps60
  go_upto_region 2 with (go_at_call 58; refine HW.out.mono ?_; rintro r v1 ⟨rfl, k1⟩; have K1 := hide k1; clear k1)
  obtain ⟨v2, hv2⟩ : ∃ v2, v1.alloc (.cells #[.int .i64 i, .int .i64 j] 116) = v2 := ⟨_, rfl⟩
  have K2 : Hid (Kept (fun _ => True) V v2) := by unfold Hid; rw [← hv2]; exact K1.out.trans (Kept.alloc _ _ _)
  have B2 : Hid (Bx v2 v1.heap.size [.int .i64 i, .int .i64 j]) := by unfold Hid; rw [← hv2]; exact Bx.new _ _ _
  obtain ⟨x, hx⟩ : ∃ x, v1.heap.size = x := ⟨_, rfl⟩
  rw [hv2]
  rw [hx] at B2 ⊢
  clear hv2 hx K1 c0 rl HW
  have k0 := HFA.out v2 K2.out
  have k1 := HFA.out v2.drew (K2.out.trans (Kept.drew _ _))
  have k2 := HFA.out (v2.alloc (.cells #[.int .i64 0, .int .i64 0, .int .i64 0, .int .i64 0, .int .i64 0] 122)) (K2.out.trans (Kept.alloc _ _ _))
  have k3 := HFA.out (v2.alloc (.cells #[.int .i64 0, .int .i64 0, .int .i64 0, .int .i64 0, .int .i64 0] 122)).drew ((K2.out.trans (Kept.alloc _ _ _)).trans (Kept.drew _ _))
  have x0 := B2.out.cel 0 _ rfl
  have x1 := (B2.out.kept (Kept.drew (fun _ => True) _) trivial).cel 0 _ rfl
  have x2 := (B2.out.kept (Kept.alloc (fun _ => True) v2 (.cells #[.int .i64 0, .int .i64 0, .int .i64 0, .int .i64 0, .int .i64 0] 122)) trivial).cel 0 _ rfl
  have x3 := ((B2.out.kept (Kept.alloc (fun _ => True) v2 (.cells #[.int .i64 0, .int .i64 0, .int .i64 0, .int .i64 0, .int .i64 0] 122)) trivial).kept (Kept.drew (fun _ => True) _) trivial).cel 0 _ rfl
  go_cut [6] (fun s wx => ∃ y, s = .pointer (some ⟨y, 0, none⟩) ∧ Bx wx y [.int .i64 i, .int .i64 0, .int .i64 0, .int .i64 e2, .int .i64 f] ∧ Kept (fun _ => True) v2 wx)
  case first =>
    go_region
    all_goals
      go_wp2_with fail
      go_meet
      case rel => exact ⟨_, rfl, (Bx.new _ _ _).kept (Kept.drew (fun _ => True) _) trivial, (Kept.alloc _ _ _).trans (Kept.drew _ _)⟩
  case rest =>
  obtain ⟨y, rfl, hy, hk⟩ := hcut
  rename World => v3
  have y4 := hy.cel 4 _ rfl
  have y2 := hy.cel 2 _ rfl
  have z1 := (B2.out.kept hk trivial).cel 1 _ rfl
  have HKF := hide (K2.out.trans hk)
  clear k0 k1 k2 k3 x0 x1 x2 x3 hk hy
  go_wp2_with fail
  go_ret
  exact ⟨by simp, HKF.out⟩

end Go.Proofs.Ytfgmgbkiebeeoaa.A

namespace Go.Proofs.Ytfgmgbkiebeeoaa.A
open Go.RowKit Go.Joins
variable {O : Nat → Nat}

/-- Things ahead of a strip. -/
def off (K : List (Nat × Nat)) (i : Nat) : Nat := ((K.take i).map Prod.snd).sum

theorem off_zero (K : List (Nat × Nat)) : off K 0 = 0 := rfl
theorem off_succ {K : List (Nat × Nat)} {i : Nat} {e : Nat × Nat} (h : K[i]? = some e) : off K (i + 1) = off K i + e.2 := by
  unfold off
  rw [List.take_add_one, h]
  simp
theorem off_le {K : List (Nat × Nat)} {i j : Nat} (h : i ≤ j) : off K i ≤ off K j := by
  induction h with
  | refl => exact Nat.le_refl _
  | @step j _ ih =>
    rcases Nat.lt_or_ge j K.length with hj | hj
    · rw [off_succ (List.getElem?_eq_getElem hj)]
      omega
    · have e1 : K.take (j + 1) = K := List.take_of_length_le (by omega)
      have e2 : K.take j = K := List.take_of_length_le hj
      unfold off at ih ⊢
      rw [e1]
      rw [e2] at ih
      exact ih
theorem off_lt {K : List (Nat × Nat)} {i i' : Nat} {e : Nat × Nat} (h : K[i]? = some e) (hi : i < i') : off K i + e.2 ≤ off K i' := by
  rw [← off_succ h]
  exact off_le hi
theorem off_end {K : List (Nat × Nat)} {i j : Nat} {e : Nat × Nat} (h : K[i]? = some e) (hj : j < e.2) : off K i + j < off K K.length := by
  have := off_lt h (List.getElem?_eq_some_iff.1 h).1
  omega
theorem off_inj {K : List (Nat × Nat)} {i i' j j' : Nat} {e e' : Nat × Nat} (h : K[i]? = some e) (h' : K[i']? = some e') (hj : j < e.2) (hj' : j' < e'.2) (he : off K i + j = off K i' + j') : i = i' ∧ j = j' := by
  rcases Nat.lt_trichotomy i i' with hi | hi | hi
  · have := off_lt h hi; omega
  · subst hi; exact ⟨rfl, by omega⟩
  · have := off_lt h' hi; omega

/-- The numbers that are given out already. -/
def fsI (K : List (Nat × Nat)) (i : Nat) : Nat → Int := fun k => if k < i then (off K k : Int) else 0

theorem fsI_zero (K : List (Nat × Nat)) : fsI K 0 = zf := by funext k; simp [fsI, zf]

theorem strs_cong {fs gs : Nat → Int} : ∀ (s : Nat) (K : List (Nat × Nat)), (∀ k, s ≤ k → k < s + K.length → fs k = gs k) → strs fs s K = strs gs s K
  | _, [], _ => rfl
  | s, e :: K, h => by
    have h1 := h s (Nat.le_refl _) (by simp)
    have h2 := strs_cong (s + 1) K (fun k a b => h k (by omega) (by simp; omega))
    simp only [strs, h1, h2]

theorem strs_setG {fs gs : Nat → Int} (A B : List (Nat × Nat)) (e : Nat × Nat) (h : ∀ k, k ≠ A.length → fs k = gs k) : ∃ xs ys, strs fs 0 (A ++ e :: B) = xs ++ .int .i64 (fs A.length) :: ys ∧ strs gs 0 (A ++ e :: B) = xs ++ .int .i64 (gs A.length) :: ys ∧ xs.length = A.length * 5 + 4 := by
  refine ⟨strs fs 0 A ++ [.int .i64 A.length, .int .i64 0, .int .i64 0, .int .i64 e.2], strs fs (A.length + 1) B, ?_, ?_, ?_⟩
  · rw [strs_app]
    simp [strs]
  · rw [strs_app, strs_cong (fs := fs) (gs := gs) 0 A (fun k _ hk => h k (by omega)), strs_cong (fs := fs) (gs := gs) (A.length + 1) B (fun k hk _ => h k (by omega))]
    simp [strs]
  · simp [strs_len]

/-- One number more is given out. -/
theorem strs_set {K : List (Nat × Nat)} {i : Nat} {e : Nat × Nat} (h : K[i]? = some e) : ∃ xs ys, strs (fsI K i) 0 K = xs ++ .int .i64 0 :: ys ∧ strs (fsI K (i + 1)) 0 K = xs ++ .int .i64 (off K i : Int) :: ys ∧ xs.length = i * 5 + 4 := by
  have hl := (List.getElem?_eq_some_iff.1 h).1
  have hti : (K.take i).length = i := by rw [List.length_take]; omega
  have hK : K.take i ++ e :: K.drop (i + 1) = K := by
    have h1 := List.take_append_drop i K
    have h2 : K.drop i = e :: K.drop (i + 1) := by
      rw [List.drop_eq_getElem_cons hl]
      rw [List.getElem?_eq_getElem hl] at h
      rw [Option.some.inj h]
    rw [h2] at h1
    exact h1
  have hg := strs_setG (fs := fsI K i) (gs := fsI K (i + 1)) (K.take i) (K.drop (i + 1)) e (fun k hk => by
    rw [hti] at hk
    simp only [fsI]
    by_cases h1 : k < i
    · rw [if_pos h1, if_pos (by omega)]
    · rw [if_neg h1, if_neg (by omega)])
  rw [hK, hti] at hg
  have z1 : fsI K i i = 0 := if_neg (by omega)
  have z2 : fsI K (i + 1) i = (off K i : Int) := if_pos (by omega)
  rw [z1, z2] at hg
  exact hg

/-- The row of things while it is filled. -/
structure TI (O : Nat → Nat) (w : World) (tb : Nat) (K left : List (Nat × Nat)) : Prop where
  lt : tb < w.heap.size
  live : ∀ j, w.frozen? ⟨tb, j, none⟩ = false
  room : ∀ k, k < off K K.length → ∃ v, w.cell? ⟨tb, k, none⟩ = some v
  full : ∀ i e j, K[i]? = some e → j < e.2 → (e.1, O e.1 + j * 9) ∈ left ∨ w.cell? ⟨tb, off K i + j, none⟩ = some (kp (e.1, O e.1 + j * 9))

theorem TI.kept {w w' : World} {tb : Nat} {K left : List (Nat × Nat)} {S : Nat → Prop} (h : TI O w tb K left) (k : Kept S w w') (hS : S tb) : TI O w' tb K left :=
  ⟨Nat.lt_of_lt_of_le h.lt k.size, fun j => (k.frozen (p := ⟨tb, j, none⟩) h.lt hS).trans (h.live j), fun n hn => by obtain ⟨v, hv⟩ := h.room n hn; exact ⟨v, (k.cell (p := ⟨tb, n, none⟩) h.lt hS).trans hv⟩, fun i e j he hj => (h.full i e j he hj).imp id (fun hc => (k.cell (p := ⟨tb, off K i + j, none⟩) h.lt hS).trans hc)⟩

theorem TI.put {w : World} {tb : Nat} {K left left' : List (Nat × Nat)} (h : TI O w tb K left) (hn : (K.map Prod.fst).Nodup) {i j : Nat} {e : Nat × Nat} (he : K[i]? = some e) (hj : j < e.2) (hl : ∀ y ∈ left, y = (e.1, O e.1 + j * 9) ∨ y ∈ left') : TI O (w.setCell ⟨tb, off K i + j, none⟩ (kp (e.1, O e.1 + j * 9))) tb K left' := by
  obtain ⟨v0, hv0⟩ := h.room _ (off_end he hj)
  refine ⟨by simpa only [World.size_setCell] using h.lt, fun q => by rw [World.frozen?_setCell]; exact h.live q, fun n hn => ?_, fun i' e' j' he' hj' => ?_⟩
  · by_cases en : n = off K i + j
    · subst en
      exact ⟨_, World.cell?_setCell_same' _ _ _ (by rw [hv0]; rfl)⟩
    · obtain ⟨v, hv⟩ := h.room n hn
      exact ⟨v, by rw [World.cell?_setCell_other _ _ _ _ (fun x => en (congrArg Addr.off x).symm)]; exact hv⟩
  · by_cases en : off K i' + j' = off K i + j
    · obtain ⟨rfl, rfl⟩ := off_inj he' he hj' hj en
      rw [he] at he'
      cases he'
      exact .inr (World.cell?_setCell_same' _ _ _ (by rw [hv0]; rfl))
    · rcases h.full i' e' j' he' hj' with h1 | h1
      · rcases hl _ h1 with h2 | h2
        · exfalso
          have h3 : e'.1 = e.1 := (Prod.mk.inj h2).1
          have h4 : O e'.1 + j' * 9 = O e.1 + j * 9 := (Prod.mk.inj h2).2
          have h5 : i' = i := (List.getElem?_inj (l := K.map Prod.fst) (by rw [List.length_map]; exact (List.getElem?_eq_some_iff.1 he').1) hn).1 (by rw [List.getElem?_map, List.getElem?_map, he, he']; simp [h3])
          subst h5
          rw [h3] at h4
          exact en (by omega)
        · exact .inl h2
      · right
        rw [World.cell?_setCell_other _ _ _ _ (fun x => en (congrArg Addr.off x).symm)]
        exact h1

end Go.Proofs.Ytfgmgbkiebeeoaa.A

namespace Go.Proofs.Ytfgmgbkiebeeoaa.A
open Go.RowKit Go.Joins
variable {O : Nat → Nat}

theorem infoP : (Try.prog.info? 100).map (fun i => (i.zero, i.size, i.bytes)) = some (some (.pointer none), 1, 8) := by kernel_rfl
theorem run_makeP (n : Nat) (hn : n ≤ 10000000) (w : World) :
    (Instr.makeSlice 69 (.int .i64 (n : Int)) (.int .i64 (n : Int))).run Try.prog w = .ok (.slice (some ⟨w.heap.size, 0, none⟩) n n) (w.alloc (.cells (madeCells #[.pointer none] n) 100)) := by
  obtain ⟨i, hi, hzz⟩ := Option.map_eq_some_iff.1 infoP
  simp only [Prod.mk.injEq] at hzz
  obtain ⟨hz, hs, hb⟩ := hzz
  have hr := run_make (P := Try.prog) w 69 100 i _ Try.underlying69 hi hz .i64 .i64 n n (by omega) (Int.le_refl _) (by rw [hb]; omega) (by omega)
  simp only [Int.toNat_natCast, hs, Nat.mul_one] at hr
  exact hr

/-- What is known while the numbers are given out. -/
def LP (O : Nat → Nat) (lo G : Nat) (V : World) (K : List (Nat × Nat)) (mv sv : Value) (i : Nat) (w : World) : Prop :=
  GS O lo G w K K mv sv (fsI K i) ∧ Kept (fun d => sv.ownBlock ≠ some d) V w

theorem LP.next {lo G : Nat} {V w : World} {K : List (Nat × Nat)} {mv : Value} {b n cap i : Nat} {e : Nat × Nat} (h : LP O lo G V K mv (.slice (some ⟨b, 0, none⟩) n cap) i w) (hn : K.length = n) (he : K[i]? = some e) :
    LP O lo G V K mv (.slice (some ⟨b, 0, none⟩) n cap) (i + 1) (w.setCell ⟨b, i * 5 + 4, none⟩ (.int .i64 (off K i))) := by
  obtain ⟨h1, h2⟩ := h
  obtain ⟨xs, ys, e1, e2, e3⟩ := strs_set he
  have ho := h1.ow
  rw [e1, hn] at ho
  have ho2 := ownsRow_set ho (.int .i64 (off K i : Int))
  rw [e3, ← e2] at ho2
  have k : Kept (fun d => d ≠ b) w (w.setCell ⟨b, i * 5 + 4, none⟩ (.int .i64 (off K i))) := Kept.setCell _ _ _ _ (by simp)
  exact ⟨h1.rowset k (by rw [hn]; exact ho2), h2.trans (k.mono (fun d _ hd e => hd (by rw [e]; rfl)))⟩

/-- What a round of the numbering reads. -/
theorem LP.read {lo G : Nat} {V w : World} {K : List (Nat × Nat)} {mv : Value} {b n cap i k : Nat} {e : Nat × Nat} (h : LP O lo G V K mv (.slice (some ⟨b, 0, none⟩) n cap) k w) (hn : K.length = n) (he : K[i]? = some e) :
    w.cell? ⟨G, 5, none⟩ = some (.slice (some ⟨b, 0, none⟩) n cap) ∧ w.cell? ⟨b, i * 5, none⟩ = some (.int .i64 i) ∧ w.cell? ⟨b, i * 5 + 2, none⟩ = some (.int .i64 0) ∧ w.cell? ⟨b, i * 5 + 3, none⟩ = some (.int .i64 e.2) ∧ (∃ v, w.cell? ⟨b, i * 5 + 4, none⟩ = some v) ∧ w.frozen? ⟨b, i * 5 + 4, none⟩ = false := by
  obtain ⟨h1, h2⟩ := h
  have ho := h1.ow
  rw [hn] at ho
  exact ⟨h1.gs, ownsRow_cell ho (i * 5) _ (strs_get _ he (j := 0) rfl), ownsRow_cell ho (i * 5 + 2) _ (strs_get _ he (j := 2) rfl), ownsRow_cell ho (i * 5 + 3) _ (strs_get _ he (j := 3) rfl), ⟨_, ownsRow_cell ho (i * 5 + 4) _ (strs_get _ he (j := 4) rfl)⟩, ownsRow_live ho _⟩

theorem LP.kept {lo G : Nat} {V w w' : World} {K : List (Nat × Nat)} {mv sv : Value} {i : Nat} (h : LP O lo G V K mv sv i w) (k : Kept (fun _ => True) w w') : LP O lo G V K mv sv i w' := ⟨h.1.kept k, h.2.trans (k.mono (fun _ _ _ => trivial))⟩

/-- What is known while the things are put down. -/
structure SL (O : Nat → Nat) (lo G : Nat) (V : World) (K : List (Nat × Nat)) (M : Nat) (sv : Value) (tb I : Nat) (left : List (Nat × Nat)) (w : World) : Prop where
  g : GS O lo G w K K (.map (some M)) sv (fsI K K.length)
  i : IW w I M (ents O 0 K) left
  t : TI O w tb K left
  c : w.cell? ⟨G, 6, none⟩ = some (.slice (some ⟨tb, 0, none⟩) (off K K.length) (off K K.length))
  k : Kept (fun d => d ≠ G ∧ sv.ownBlock ≠ some d) V w
  o : ∀ q, q ≠ 6 → w.cell? ⟨G, q, none⟩ = V.cell? ⟨G, q, none⟩
  hs : V.heap.size ≤ tb ∧ tb < I ∧ M < V.heap.size ∧ ∀ d, sv.ownBlock = some d → d < V.heap.size

theorem SL.kept {lo G : Nat} {V w w' : World} {K : List (Nat × Nat)} {M : Nat} {sv : Value} {tb I : Nat} {left : List (Nat × Nat)} (h : SL O lo G V K M sv tb I left w) (k : Kept (fun _ => True) w w') : SL O lo G V K M sv tb I left w' := by
  have hG : G < w.heap.size := by have := h.g.hg; have := h.g.hv; omega
  exact ⟨h.g.kept k, h.i.kept k trivial trivial, h.t.kept k trivial, (k.cell (p := ⟨G, 6, none⟩) hG trivial).trans h.c, h.k.trans (k.mono (fun _ _ _ => trivial)), fun q hq => (k.cell (p := ⟨G, q, none⟩) hG trivial).trans (h.o q hq), h.hs⟩

/-- The iterator goes on. -/
theorem SL.step {lo G : Nat} {V w w' : World} {K : List (Nat × Nat)} {M : Nat} {sv : Value} {tb I : Nat} {left : List (Nat × Nat)} (h : SL O lo G V K M sv tb I left w) (k : Kept (fun d => d ≠ I) w w') : GS O lo G w' K K (.map (some M)) sv (fsI K K.length) ∧ TI O w' tb K left ∧ w'.cell? ⟨G, 6, none⟩ = some (.slice (some ⟨tb, 0, none⟩) (off K K.length) (off K K.length)) ∧ Kept (fun d => d ≠ G ∧ sv.ownBlock ≠ some d) V w' ∧ ∀ q, q ≠ 6 → w'.cell? ⟨G, q, none⟩ = V.cell? ⟨G, q, none⟩ := by
  have hG := h.g.hg
  have hv := h.g.hv
  obtain ⟨s1, s2, s3, s4⟩ := h.hs
  have hV := h.k.size
  have hIl : lo ≤ I := by
    have : M < V.heap.size := s3
    rcases h.g.mp with ⟨-, h1⟩ | ⟨M', h1, -, h3⟩
    · cases h1
    · cases h1; omega
  refine ⟨h.g.off k hIl (fun M' e => by cases e; omega) (fun b e => by have := s4 b e; omega), h.t.kept k (by omega), (k.cell (p := ⟨G, 6, none⟩) (by show G < _; omega) (by show G ≠ I; omega)).trans h.c, ?_, fun q hq => (k.cell (p := ⟨G, q, none⟩) (by show G < _; omega) (by show G ≠ I; omega)).trans (h.o q hq)⟩
  exact ⟨k.os.trans h.k.os, k.tape.trans h.k.tape, k.output.trans h.k.output, Nat.le_trans hV k.size, fun q hq hs => (k.block q (by omega) (by show q ≠ I; omega)).trans (h.k.block q hq hs)⟩

end Go.Proofs.Ytfgmgbkiebeeoaa.A

namespace Go.Proofs.Ytfgmgbkiebeeoaa.A
open Go.RowKit Go.Joins
variable {O : Nat → Nat}

/-- What settle leaves. -/
def SeP (O : Nat → Nat) (lo G : Nat) (V : World) (K : List (Nat × Nat)) (mv sv : Value) (V' : World) : Prop :=
  ∃ tb, GS O lo G V' K K mv sv (fsI K K.length) ∧ TI O V' tb K [] ∧ V'.cell? ⟨G, 6, none⟩ = some (.slice (some ⟨tb, 0, none⟩) (off K K.length) (off K K.length)) ∧ V.heap.size ≤ tb ∧ Kept (fun d => d ≠ G ∧ sv.ownBlock ≠ some d) V V' ∧ ∀ q, q ≠ 6 → V'.cell? ⟨G, q, none⟩ = V.cell? ⟨G, q, none⟩

theorem SL.fin {lo G : Nat} {V w : World} {K : List (Nat × Nat)} {M : Nat} {sv : Value} {tb I : Nat} (h : SL O lo G V K M sv tb I [] w) : SeP O lo G V K (.map (some M)) sv w := ⟨tb, h.g, h.t, h.c, h.hs.1, h.k, h.o⟩

/-- The walk over the things begins. -/
theorem SL.start {lo G : Nat} {V w : World} {K : List (Nat × Nat)} {M : Nat} {sv : Value} (h : LP O lo G V K (.map (some M)) sv K.length w) (hV : GS O lo G V K K (.map (some M)) sv zf) (hn : (K.map Prod.fst).Nodup) (hc2 : ∃ v, w.cell? ⟨G, 6, none⟩ = some v) (C : Nat) (hC : off K K.length = C) :
    ∃ c, (Instr.range 68 (.map (some M))).run Try.prog ((w.alloc (.cells (madeCells #[.pointer none] C) 100)).setCell ⟨G, 6, none⟩ (.slice (some ⟨w.heap.size, 0, none⟩) C C)) = .ok (.pointer (some ⟨w.heap.size + 1, 0, none⟩)) (((w.alloc (.cells (madeCells #[.pointer none] C) 100)).setCell ⟨G, 6, none⟩ (.slice (some ⟨w.heap.size, 0, none⟩) C C)).alloc (.mapIter (some M) c #[] c)) ∧ SL O lo G V K M sv w.heap.size (w.heap.size + 1) ((ents O 0 K).map Prod.fst) (((w.alloc (.cells (madeCells #[.pointer none] C) 100)).setCell ⟨G, 6, none⟩ (.slice (some ⟨w.heap.size, 0, none⟩) C C)).alloc (.mapIter (some M) c #[] c)) := by
  obtain ⟨h1, h2⟩ := h
  have hG := h1.hg
  have hv := h1.hv
  have hMV := hV.map
  have hsv : ∀ d, sv.ownBlock = some d → d < V.heap.size := fun d e => by
    obtain ⟨cur, hc⟩ := ownsRow_type hV.ow d e
    exact (Array.getElem?_eq_some_iff.1 hc).1
  have hw := h2.size
  obtain ⟨w1, hw1⟩ : ∃ w1, w.alloc (.cells (madeCells #[.pointer none] C) 100) = w1 := ⟨_, rfl⟩
  have k1 : Kept (fun _ => True) w w1 := by rw [← hw1]; exact Kept.alloc _ _ _
  have z1 : w1.heap.size = w.heap.size + 1 := by rw [← hw1]; simp
  have b1 : w1.heap[w.heap.size]? = some (.cells (madeCells #[.pointer none] C) 100) := by rw [← hw1]; exact heap_new _ _
  rw [hw1]
  obtain ⟨w2, hw2⟩ : ∃ w2, w1.setCell ⟨G, 6, none⟩ (.slice (some ⟨w.heap.size, 0, none⟩) C C) = w2 := ⟨_, rfl⟩
  have k2 : Kept (fun d => d ≠ G) w1 w2 := by rw [← hw2]; exact Kept.setCell _ _ _ _ (by simp)
  have z2 : w2.heap.size = w.heap.size + 1 := by rw [← hw2, World.size_setCell]; exact z1
  obtain ⟨v0, hv0⟩ := hc2
  have hv1 : w1.cell? ⟨G, 6, none⟩ = some v0 := (k1.cell (p := ⟨G, 6, none⟩) (by show G < _; omega) trivial).trans hv0
  have c2 : w2.cell? ⟨G, 6, none⟩ = some (.slice (some ⟨w.heap.size, 0, none⟩) C C) := by rw [← hw2]; exact World.cell?_setCell_same' _ _ _ (by rw [hv1]; rfl)
  have o2 : ∀ q, q ≠ 6 → w2.cell? ⟨G, q, none⟩ = w.cell? ⟨G, q, none⟩ := fun q hq => by
    rw [← hw2, World.cell?_setCell_other _ _ _ _ (fun x => hq (congrArg Addr.off x).symm)]
    exact k1.cell (p := ⟨G, q, none⟩) (by show G < _; omega) trivial
  have f2 : ∀ q, w2.frozen? ⟨G, q, none⟩ = false := fun q => by rw [← hw2, World.frozen?_setCell]; exact (h1.kept k1).gf q
  rw [hw2]
  have g2 : GS O lo G w2 K K (.map (some M)) sv (fsI K K.length) := (h1.kept k1).other k2 ((o2 4 (by omega)).trans h1.gm) ((o2 5 (by omega)).trans h1.gs) f2
  obtain ⟨c, hr, hi⟩ := IW.start g2.map.1 (P := Try.prog) Try.underlying68
  rw [z2] at hr hi
  have k3 : Kept (fun _ => True) w2 (w2.alloc (.mapIter (some M) c #[] c)) := Kept.alloc _ _ _
  have b2 : w2.heap[w.heap.size]? = some (.cells (madeCells #[.pointer none] C) 100) := (k2.block _ (by omega) (by omega)).trans b1
  have oG : ∀ q, q ≠ 6 → w.cell? ⟨G, q, none⟩ = V.cell? ⟨G, q, none⟩ := fun q _ => h2.cell (p := ⟨G, q, none⟩) (by have := hV.hv; show G < _; omega) (fun e => by have := ownsRow_blk hV.ow G e; omega)
  have kV : Kept (fun d => d ≠ G ∧ sv.ownBlock ≠ some d) V w2 := ((h2.mono (fun _ _ x => x.2)).trans (k1.mono (fun _ _ _ => trivial))).trans (k2.mono (fun _ _ x => x.1))
  refine ⟨c, hr, g2.kept k3, hi, TI.kept (S := fun _ => True) ⟨by omega, fun j => ?_, fun q hq => ?_, fun i e j he hj => .inl ?_⟩ k3 trivial, ?_, kV.trans (k3.mono (fun _ _ _ => trivial)), fun q hq => ?_, hw, by omega, hMV.2.2, hsv⟩
  · simp [World.frozen?, b2]
  · rw [hC] at hq
    have hm : (madeCells #[.pointer none] C)[q]? = some (.pointer none) := by
      rw [← Array.getElem?_toList, toList_madeCells_one]
      simp [hq]
    exact ⟨.pointer none, by simp [World.cell?, b2, hm]⟩
  · exact List.mem_map.2 ⟨_, getP_mem (ents_get hn he hj), rfl⟩
  · rw [hC]
    exact (k3.cell (p := ⟨G, 6, none⟩) (by show G < _; omega) trivial).trans c2
  · exact ((k3.cell (p := ⟨G, q, none⟩) (by show G < _; omega) trivial).trans (o2 q hq)).trans (oG q hq)

end Go.Proofs.Ytfgmgbkiebeeoaa.A

namespace Go.Proofs.Ytfgmgbkiebeeoaa.A
open Go.RowKit Go.Joins
variable {O : Nat → Nat}

theorem Kept.drewN (S : Nat → Prop) (A : World) (n : Nat) : Kept S A (A.drewN n) := ⟨rfl, rfl, rfl, Nat.le_refl _, fun _ _ _ => rfl⟩

/-- One thing more is put down. -/
theorem SL.put {lo G : Nat} {V w w' W5 : World} {K : List (Nat × Nat)} {M : Nat} {sv : Value} {tb I : Nat} {left left' : List (Nat × Nat)} (h : SL O lo G V K M sv tb I left w) (k : Kept (fun d => d ≠ I) w w') (hi : IW w' I M (ents O 0 K) left') (k5 : Kept (fun _ => True) w' W5) (hn : (K.map Prod.fst).Nodup) {i j : Nat} {e : Nat × Nat} (he : K[i]? = some e) (hj : j < e.2) (hl : ∀ y ∈ left, y = (e.1, O e.1 + j * 9) ∨ y ∈ left') :
    SL O lo G V K M sv tb I left' (W5.setCell ⟨tb, off K i + j, none⟩ (kp (e.1, O e.1 + j * 9))) := by
  obtain ⟨a1, a2, a3, a4, a5⟩ := h.step k
  obtain ⟨s1, s2, s3, s4⟩ := h.hs
  have hG := h.g.hg
  have hv := h.g.hv
  have hV := h.k.size
  have hlo : lo ≤ tb := by
    rcases h.g.mp with ⟨-, h1⟩ | ⟨M', h1, -, h3⟩
    · cases h1
    · cases h1; omega
  have hI : I < W5.heap.size := by
    obtain ⟨es, clock, seen, -, q2, -⟩ := hi.it
    exact Nat.lt_of_lt_of_le (Array.getElem?_eq_some_iff.1 q2).1 k5.size
  have z5 : w'.heap.size ≤ W5.heap.size := k5.size
  have z' := k.size
  have ks : Kept (fun d => d ≠ tb) W5 (W5.setCell ⟨tb, off K i + j, none⟩ (kp (e.1, O e.1 + j * 9))) := Kept.setCell _ _ _ _ (by simp)
  have g5 := a1.kept k5
  have t5 := a2.kept k5 trivial
  have c5 : ∀ q, W5.cell? ⟨G, q, none⟩ = w'.cell? ⟨G, q, none⟩ := fun q => k5.cell (p := ⟨G, q, none⟩) (by have := a1.hv; show G < _; omega) trivial
  have c6 : ∀ q, (W5.setCell ⟨tb, off K i + j, none⟩ (kp (e.1, O e.1 + j * 9))).cell? ⟨G, q, none⟩ = W5.cell? ⟨G, q, none⟩ := fun q => ks.cell (p := ⟨G, q, none⟩) (by have := g5.hv; show G < _; omega) (by show G ≠ tb; omega)
  refine ⟨g5.off ks hlo (fun M' e => by cases e; omega) (fun b e => by have := s4 b e; omega), (hi.kept k5 trivial trivial).kept ks (by show I ≠ tb; omega) (by show M ≠ tb; omega), t5.put hn he hj hl, ((c6 6).trans (c5 6)).trans a3, ?_, fun q hq => ((c6 q).trans (c5 q)).trans (a5 q hq), h.hs⟩
  have k6 := a4.trans (k5.mono (fun _ _ _ => trivial))
  exact ⟨ks.os.trans k6.os, ks.tape.trans k6.tape, ks.output.trans k6.output, Nat.le_trans k6.size ks.size, fun q hq hs => (ks.block q (Nat.lt_of_lt_of_le hq k6.size) (by show q ≠ tb; omega)).trans (k6.block q hq hs)⟩

set_option maxHeartbeats 4000000 in
set_option maxRecDepth 100000 in
/-- The things get their numbers. -/
theorem i_settle {lo G : Nat} {V : World} {K : List (Nat × Nat)} {M : Nat} {sv : Value} (h : GS O lo G V K K (.map (some M)) sv zf) (hn : (K.map Prod.fst).Nodup) (hk0 : 0 < K.length) (hl : K.length ≤ 10000000) (hof : off K K.length ≤ 10000000) (hc2 : ∃ v, V.cell? ⟨G, 6, none⟩ = some v) :
    Calls Try.prog 40 #[.pointer (some ⟨G, 4, none⟩)] V fun r V' => (∃ v, r = .returned v) ∧ SeP O lo G V K (.map (some M)) sv V' := by
  obtain ⟨b, cap, rfl, -, -, hcap⟩ := h.slice hk0
  obtain ⟨n, hnn⟩ : ∃ n, K.length = n := ⟨_, rfl⟩
  have c1 := h.gs
  rw [hnn] at c1 hcap ⊢
  have h0 : LP O lo G V K (.map (some M)) (.slice (some ⟨b, 0, none⟩) n cap) 0 V := by
    refine ⟨?_, Kept.refl _ _⟩
    rw [fsI_zero]
    rw [hnn] at h
    exact h
  have HH : Hid (GS O lo G V K K (.map (some M)) (.slice (some ⟨b, 0, none⟩) n cap) zf) := by rw [hnn] at h; exact h
  have H0 := hide h0
  have HN := hide hn
  have HNN := hide hnn
  have HOF := hide hof
  have HC2 := hide hc2
  have hn1 : n ≤ 10000000 := by omega
  clear h hn hk0 hl hof hc2 h0 hnn
  go_enter Try.func40, Try.ntmps40
  go_upto_region 2 with fail
  go_loopw [2, 3, 4, 11] (fun s2 _ _ s11 wr => ∃ i : Nat, s2 = .int .i64 (off K i : Nat) ∧ s11 = .int .i64 (i : Int) ∧ i ≤ n ∧ Hid (LP O lo G V K (.map (some M)) (.slice (some ⟨b, 0, none⟩) n cap) i wr)) (fun _ _ _ s11 _ => n - (intOf s11).toNat)
  case atStart => exact ⟨0, rfl, rfl, Nat.zero_le _, H0⟩
  case round =>
    obtain ⟨i, rfl, rfl, hin, hlp⟩ := hrel
    by_cases hi : i < n
    · have hii : (i : Int) < (n : Int) := by omega
      obtain ⟨e, he⟩ : ∃ e, K[i]? = some e := ⟨_, List.getElem?_eq_getElem (by rw [HNN.out]; exact hi)⟩
      obtain ⟨r1, r2, -, -, ⟨v5, r5⟩, r6⟩ := hlp.out.read HNN.out he
      obtain ⟨w1, hw1⟩ : ∃ w1, wr.setCell ⟨b, i * 5 + 4, none⟩ (.int .i64 (off K i)) = w1 := ⟨_, rfl⟩
      have lp1 := hlp.out.next HNN.out he
      rw [hw1] at lp1
      obtain ⟨-, -, q3, q4, -, -⟩ := lp1.read HNN.out he
      have HL1 := hide lp1
      have HW1 := hide hw1
      have hic : i < cap := by omega
      have HO : Hid (off K (i + 1) = off K i + e.2) := off_succ he
      have hle : e.2 ≤ 10000000 := by
        have h1 := off_lt he (show i < K.length by rw [HNN.out]; exact hi)
        have h2 := HOF.out
        omega
      have hole : off K i ≤ 10000000 := by
        have h1 := off_le (K := K) (show i ≤ K.length by rw [HNN.out]; omega)
        have h2 := HOF.out
        omega
      obtain ⟨e1, e2⟩ := e
      obtain ⟨x, hx⟩ : ∃ x, off K i = x := ⟨_, rfl⟩
      rw [hx] at HO hole HW1 ⊢
      dsimp only at q4 hle HO
      clear lp1 he hw1 hx
      go_upto_region 7 with fail
      rw [HW1.out]
      go_quiet (fail)
      go_wp2_with fail
      go_roundw
      case rel => exact ⟨i + 1, by rw [HO.out]; simp, by go_num, by omega, HL1.out.kept (Kept.drewN _ _ _)⟩
      case measure => simp [intOf]; omega
    · have hii : ¬ (i : Int) < (n : Int) := by omega
      have ein : i = K.length := by rw [HNN.out]; omega
      have lpn := hlp.out
      rw [ein] at lpn
      obtain ⟨C, hC⟩ : ∃ C, off K K.length = C := ⟨_, rfl⟩
      have hCC : C ≤ 10000000 := by rw [← hC]; exact HOF.out
      obtain ⟨v2, hv2⟩ := HC2.out
      have hG := HH.out.hg
      have hv := HH.out.hv
      have cw : ∀ q, wr.cell? ⟨G, q, none⟩ = V.cell? ⟨G, q, none⟩ := fun q => lpn.2.cell (p := ⟨G, q, none⟩) (by show G < _; omega) (fun e => by have := ownsRow_blk HH.out.ow G e; omega)
      have t2 : wr.cell? ⟨G, 6, none⟩ = some v2 := (cw 6).trans hv2
      have t0 : wr.cell? ⟨G, 4, none⟩ = some (.map (some M)) := lpn.1.gm
      have tf := lpn.1.gf 6
      obtain ⟨c, hr, hSL⟩ := SL.start lpn HH.out HN.out ⟨v2, t2⟩ C hC
      have hmk := run_makeP C hCC wr
      obtain ⟨w1, hw1⟩ : ∃ w1, wr.alloc (.cells (madeCells #[.pointer none] C) 100) = w1 := ⟨_, rfl⟩
      rw [hw1] at hr hSL hmk
      have k1 : Kept (fun _ => True) wr w1 := by rw [← hw1]; exact Kept.alloc _ _ _
      have hGw : G < wr.heap.size := block_lt_of_cell t0
      have t21 : w1.cell? ⟨G, 6, none⟩ = some v2 := (k1.cell (p := ⟨G, 6, none⟩) hGw trivial).trans t2
      have tf1 : w1.frozen? ⟨G, 6, none⟩ = false := (k1.frozen (p := ⟨G, 6, none⟩) hGw trivial).trans tf
      have t01 : w1.cell? ⟨G, 4, none⟩ = some (.map (some M)) := (k1.cell (p := ⟨G, 4, none⟩) hGw trivial).trans t0
      obtain ⟨w2, hw2⟩ : ∃ w2, w1.setCell ⟨G, 6, none⟩ (.slice (some ⟨wr.heap.size, 0, none⟩) C C) = w2 := ⟨_, rfl⟩
      rw [hw2] at hr hSL
      have t02 : w2.cell? ⟨G, 4, none⟩ = some (.map (some M)) := by
        rw [← hw2, World.cell?_setCell_other _ _ _ _ (fun x => (by decide : ¬ (6 : Nat) = 4) (congrArg Addr.off x))]
        exact t01
      obtain ⟨w3, hw3⟩ : ∃ w3, w2.alloc (.mapIter (some M) c #[] c) = w3 := ⟨_, rfl⟩
      rw [hw3] at hr hSL
      have HSL := hide hSL
      have HW2 := hide hw2
      have hci : Hid ((off K i : Nat) = C) := by unfold Hid; rw [ein]; exact hC
      have HCe := hide hC
      rw [hci.out]
      obtain ⟨tb, htb⟩ : ∃ tb, wr.heap.size = tb := ⟨_, rfl⟩
      rw [htb] at hr HSL HW2 hmk
      obtain ⟨I, hI⟩ : ∃ I, tb + 1 = I := ⟨_, rfl⟩
      rw [hI] at hr HSL
      clear hSL hw1 hw2 hw3 hC lpn ein hv2 hG hv cw t2 tf k1 hGw t01 hlp htb hI
      go_upto_region 10 with fail
      rw [HW2.out]
      go_upto_region 11 with fail
      go_loopg [5] (((ents O 0 K).map Prod.fst).length) (fun g _ wx => ∃ left, Hid (g = left.length) ∧ Hid (SL O lo G V K M (.slice (some ⟨b, 0, none⟩) n cap) tb I left wx))
      case atStart => exact ⟨_, rfl, HSL⟩
      case round =>
        obtain ⟨left, hg, hs⟩ := hrel
        have hIM : I ≠ M := by
          obtain ⟨s1, s2, s3, -⟩ := hs.out.hs
          omega
        rcases hs.out.i.next (P := Try.prog) hIM 0 with ⟨rfl, hrun⟩ | ⟨x, v, left', w', hx, hy, hlen, hrun, hent, hiw, hk⟩
        · have HE := hide hs.out.fin
          clear hs HSL
          go_wp2_with fail
          go_end0
          exact ⟨⟨_, rfl⟩, HE.out⟩
        · obtain ⟨p, hp, hpx⟩ := hs.out.i.sub x hx
          obtain ⟨k, e, e1, e2, -, e4, e5⟩ := ents_mem 0 K p hp
          obtain ⟨j, hj⟩ : ∃ j, p.2.2 = j := ⟨_, rfl⟩
          rw [hj] at e4 e5
          have hxe : x = (e.1, O e.1 + j * 9) := by rw [← hpx]; exact Prod.ext e2 (by rw [e5, e2])
          subst hxe
          have hkn : k < K.length := (List.getElem?_eq_some_iff.1 e1).1
          have hPC : off K k + j < C := by rw [← HCe.out]; exact off_end e1 e4
          obtain ⟨P, hP⟩ : ∃ P, off K k + j = P := ⟨_, rfl⟩
          rw [hP] at hPC
          have st := hs.out.step hk
          have ti := st.2.1
          have hoe : e.2 ≤ 10000000 := by
            have h1 := off_lt e1 hkn
            have h2 := HOF.out
            omega
          have hok : off K k ≤ 10000000 := by
            have h1 := off_le (K := K) (show k ≤ K.length by omega)
            have h2 := HOF.out
            omega
          have hfk : fsI K K.length k = (off K k : Int) := if_pos hkn
          obtain ⟨X1, hX1⟩ : ∃ X1, e.1 = X1 := ⟨_, rfl⟩
          obtain ⟨X2, hX2⟩ : ∃ X2, O e.1 + j * 9 = X2 := ⟨_, rfl⟩
          have HCB : Hid (∀ Vx, Kept (fun _ => True) w' Vx → Calls Try.prog 60 #[.pointer (some ⟨G, 4, none⟩), .pointer (some ⟨X1, X2, none⟩)] Vx fun r w'' => ∃ v, r = .returned v ∧ (v = .int .i64 (P : Int) ∧ Kept (fun _ => True) w' w'')) := fun Vx kx => by
            have h1 := i_number (st.1.kept kx) HN.out e1 e4 (by rw [HNN.out]; exact hn1) (by rw [hfk]; omega) hoe
            rw [hX2, hX1] at h1
            refine h1.mono ?_
            rintro r w'' ⟨rfl, k2⟩
            exact ⟨_, rfl, by rw [hfk, ← hP]; simp, kx.trans k2⟩
          have FX : Hid (∀ W5, Kept (fun _ => True) w' W5 → W5.cell? ⟨G, 6, none⟩ = some (.slice (some ⟨tb, 0, none⟩) C C) ∧ (∃ v0, W5.cell? ⟨tb, P, none⟩ = some v0) ∧ W5.frozen? ⟨tb, P, none⟩ = false) := fun W5 k5 => by
            have c3 := st.2.2.1
            rw [HCe.out] at c3
            have t5 := ti.kept k5 trivial
            exact ⟨(k5.cell (p := ⟨G, 6, none⟩) (block_lt_of_cell c3) trivial).trans c3, t5.room P (by rw [HCe.out]; exact hPC), t5.live P⟩
          have FIN : Hid (∀ W5, Kept (fun _ => True) w' W5 → SL O lo G V K M (.slice (some ⟨b, 0, none⟩) n cap) tb I left' (W5.setCell ⟨tb, P, none⟩ (.pointer (some ⟨X1, X2, none⟩)))) := fun W5 k5 => by
            have := hs.out.put hk hiw k5 HN.out e1 e4 hy
            simp only [kp] at this
            rw [hP, hX2, hX1] at this
            exact this
          have HLEN : Hid (left'.length < left.length) := by unfold Hid; omega
          have he1 := hent w' (.inl rfl)
          simp only [kp] at he1 hrun
          rw [hX2, hX1] at he1 hrun
          have hPC2 : (P : Int) < (C : Int) := by omega
          clear hent hiw hk hx hy hlen st ti hoe hok hfk hP hkn e1 e2 e4 e5 hpx hp hs hX1 hX2 hj
          obtain ⟨d1, ⟨dv, d2⟩, d3⟩ := FX.out w'.drew (Kept.drew _ _)
          go_upto_region 13 with fail
          go_region_law (first
            | (refine step_call (by rfl) 60 #[.pointer (some ⟨G, 4, none⟩), .pointer (some ⟨X1, X2, none⟩)] (by simp [go_sem]) _ (HCB.out _ (Kept.drew _ _)) ?_; rintro v5 W5 ⟨rfl, h5⟩; have K5 := hide h5; obtain ⟨y1, ⟨yv, y2⟩, y3⟩ := FX.out W5 h5; clear h5)
            | fail)
          all_goals
            go_wp2_with fail
            go_roundg left'.length
            case measure => rw [hg.out]; exact HLEN.out
            case rel => exact ⟨left', rfl, FIN.out W5 K5.out⟩

end Go.Proofs.Ytfgmgbkiebeeoaa.A

namespace Go.Proofs.Ytfgmgbkiebeeoaa.A
open Go.RowKit Go.Joins
variable {O : Nat → Nat}

set_option maxHeartbeats 4000000 in
set_option maxRecDepth 100000 in
/-- There are no things. -/
theorem i_settle0 {lo G : Nat} {V : World} {sv : Value} (h : GS O lo G V [] [] (.map none) sv zf) (hc2 : ∃ v, V.cell? ⟨G, 6, none⟩ = some v) :
    Calls Try.prog 40 #[.pointer (some ⟨G, 4, none⟩)] V fun r V' => (∃ v, r = .returned v) ∧ SeP O lo G V [] (.map none) sv V' := by
  obtain ⟨a, cap, rfl⟩ := h.slice0
  have c1 : V.cell? ⟨G, 5, none⟩ = some (.slice a 0 cap) := h.gs
  have c0 := h.gm
  have tf := h.gf 6
  obtain ⟨v2, c2⟩ := hc2
  have hmk : (Instr.makeSlice 69 (.int .i64 0) (.int .i64 0)).run Try.prog V = .ok (.slice (some ⟨V.heap.size, 0, none⟩) 0 0) (V.alloc (.cells (madeCells #[.pointer none] 0) 100)) := run_makeP 0 (by omega) V
  obtain ⟨w1, hw1⟩ : ∃ w1, V.alloc (.cells (madeCells #[.pointer none] 0) 100) = w1 := ⟨_, rfl⟩
  rw [hw1] at hmk
  have k1 : Kept (fun _ => True) V w1 := by rw [← hw1]; exact Kept.alloc _ _ _
  have z1 : w1.heap.size = V.heap.size + 1 := by rw [← hw1]; simp
  have hGw : G < V.heap.size := block_lt_of_cell c0
  have t21 : w1.cell? ⟨G, 6, none⟩ = some v2 := (k1.cell (p := ⟨G, 6, none⟩) hGw trivial).trans c2
  have tf1 : w1.frozen? ⟨G, 6, none⟩ = false := (k1.frozen (p := ⟨G, 6, none⟩) hGw trivial).trans tf
  obtain ⟨w2, hw2⟩ : ∃ w2, w1.setCell ⟨G, 6, none⟩ (.slice (some ⟨V.heap.size, 0, none⟩) 0 0) = w2 := ⟨_, rfl⟩
  have k2 : Kept (fun d => d ≠ G) w1 w2 := by rw [← hw2]; exact Kept.setCell _ _ _ _ (by simp)
  have z2 : w2.heap.size = V.heap.size + 1 := by rw [← hw2, World.size_setCell]; exact z1
  have oq : ∀ q, q ≠ 6 → w2.cell? ⟨G, q, none⟩ = V.cell? ⟨G, q, none⟩ := fun q hq => by
    rw [← hw2, World.cell?_setCell_other _ _ _ _ (fun x => hq (congrArg Addr.off x).symm)]
    exact k1.cell (p := ⟨G, q, none⟩) hGw trivial
  have fq : ∀ q, w2.frozen? ⟨G, q, none⟩ = false := fun q => by rw [← hw2, World.frozen?_setCell]; exact (h.kept k1).gf q
  have t02 : w2.cell? ⟨G, 4, none⟩ = some (.map none) := (oq 4 (by decide)).trans c0
  have hrg := run_range_nilMap (P := Try.prog) w2 68 100 116 Try.underlying68
  have hnx : ∀ ty, (Instr.next (.pointer (some ⟨w2.heap.size, 0, none⟩)) false ty).run Try.prog (w2.alloc (.mapIter none 0 #[] 0)) = _ := fun ty => run_next_nilMap w2 ty 0 0 #[]
  have HE : Hid (SeP O lo G V [] (.map none) (.slice a 0 cap) (w2.alloc (.mapIter none 0 #[] 0))) := by
    have g2 : GS O lo G w2 [] [] (.map none) (.slice a 0 cap) zf := (h.kept k1).other k2 t02 ((oq 5 (by decide)).trans c1) fq
    have k3 : Kept (fun _ => True) w2 (w2.alloc (.mapIter none 0 #[] 0)) := Kept.alloc _ _ _
    have b1 : w1.heap[V.heap.size]? = some (.cells (madeCells #[.pointer none] 0) 100) := by rw [← hw1]; exact heap_new _ _
    have b2 : w2.heap[V.heap.size]? = some (.cells (madeCells #[.pointer none] 0) 100) := (k2.block _ (by omega) (by omega)).trans b1
    refine ⟨V.heap.size, ?_, ?_, ?_, Nat.le_refl _, ?_, fun q hq => ?_⟩
    · have := g2.kept k3
      rw [List.length_nil, fsI_zero]
      exact this
    · refine TI.kept (S := fun _ => True) ⟨by omega, fun j => by simp [World.frozen?, b2], fun q hq => ?_, fun i e j he => ?_⟩ k3 trivial
      · simp [off] at hq
      · simp at he
    · have c22 : w2.cell? ⟨G, 6, none⟩ = some (.slice (some ⟨V.heap.size, 0, none⟩) 0 0) := by rw [← hw2]; exact World.cell?_setCell_same' _ _ _ (by rw [t21]; rfl)
      exact (k3.cell (p := ⟨G, 6, none⟩) (by show G < _; omega) trivial).trans c22
    · exact ((k1.mono (fun _ _ _ => trivial)).trans (k2.mono (fun _ _ x => x.1))).trans (k3.mono (fun _ _ _ => trivial))
    · exact (k3.cell (p := ⟨G, q, none⟩) (by show G < _; omega) trivial).trans (oq q hq)
  have HW2 := hide hw2
  clear h oq fq k1 k2 z1 hw1 hw2 hGw z2 tf c2
  go_enter Try.func40, Try.ntmps40
  go_upto_region 2 with fail
  go_loopw [2, 3, 4, 11] (fun s2 _ _ s11 wr => s2 = .int .i64 0 ∧ s11 = .int .i64 0 ∧ wr = V) (fun _ _ _ _ _ => 0)
  case atStart => exact ⟨rfl, rfl, rfl⟩
  case round =>
    obtain ⟨rfl, rfl, rfl⟩ := hrel
    go_upto_region 10 with fail
    rw [HW2.out]
    go_upto_region 11 with fail
    go_loopw [5] (fun _ wx => wx = w2.alloc (.mapIter none 0 #[] 0)) (fun _ _ => 0)
    case atStart => rfl
    case round =>
      subst hrel
      go_wp2_with fail
      go_end0
      exact ⟨⟨_, rfl⟩, HE.out⟩

end Go.Proofs.Ytfgmgbkiebeeoaa.A
