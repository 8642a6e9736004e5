import Derived.Test.YtfgmgbkiebeeoaaJD
import Derived.Test.YtfgmgbkiebeeoaaJE
import Derived.Test.YtfgmgbkiebeeoaaJF
import Derived.Laws.Runes
namespace Go.Proofs.Ytfgmgbkiebeeoaa
open Go.RowKit Go.Joins

theorem LQ.pre {w w1 w' : World} {B1 G : Nat} {LS : List (Nat × Nat)} {lv : Value} {Mn : Nat} {x : Nat × Nat} {i : Nat} {L2 : List (Nat × Nat)} {lv' : Value} (hG : G < w.heap.size) (k : Kept (fun _ => True) w w1) (h : LQ w1 w' B1 G LS lv Mn x i L2 lv') : LQ w w' B1 G LS lv Mn x i L2 lv' :=
  ⟨h.ln, h.at_, h.new, (k.mono (fun _ _ _ => trivial)).trans h.kept, fun j hj => (h.cell j hj).trans (k.cell (p := ⟨G, j, none⟩) hG trivial), fun j => (h.froz j).trans (k.frozen (p := ⟨G, j, none⟩) hG trivial), h.blk.imp id (fun ⟨c, h1, h2⟩ => ⟨c, h1, Nat.le_trans k.size h2⟩)⟩

theorem LQ.same {w w' : World} {B1 G : Nat} {LS : List (Nat × Nat)} {lv : Value} {Mn : Nat} {x : Nat × Nat} {i : Nat} (h : LN w B1 G LS lv Mn) (hi : LS[i]? = some x) (k : Kept (fun _ => True) w w') : LQ w w' B1 G LS lv Mn x i [] lv := by
  have hG : G < w.heap.size := block_lt_of_cell h.c9
  exact ⟨by rw [List.append_nil]; exact h.kept k trivial trivial (fun _ _ => trivial), by rw [List.append_nil]; exact hi, .inl rfl, k.mono (fun _ _ _ => trivial), fun j _ => k.cell (p := ⟨G, j, none⟩) hG trivial, fun j => k.frozen (p := ⟨G, j, none⟩) hG trivial, .inl rfl⟩

/-- The blocks of the two grounds. -/
def FB (KK AA : List (Nat × Nat)) (mk sk ma sa : Value) (tk ta : Nat) (c : Nat) : Prop :=
  (mk = .map (some c) ∨ sk.ownBlock = some c) ∨ (ma = .map (some c) ∨ sa.ownBlock = some c) ∨ c = tk ∨ c = ta ∨ (∃ e ∈ KK, e.1 = c) ∨ ∃ e ∈ AA, e.1 = c

/-- Grounds that are settled, and lists with numbers. -/
structure PZ (O : Nat → Nat) (w : World) (B1 lo G : Nat) (KK AA : List (Nat × Nat)) (mk sk ma sa : Value) (tk ta : Nat) (LS : List (Nat × Nat)) (lv : Value) (Mn : Nat) : Prop where
  gk : K.GS O lo G w KK KK mk sk (K.fsI KK KK.length)
  ga : A.GS O lo G w AA AA ma sa (A.fsI AA AA.length)
  tK : K.TI O w tk KK []
  tA : A.TI O w ta AA []
  c2 : w.cell? ⟨G, 2, none⟩ = some (.slice (some ⟨tk, 0, none⟩) (K.off KK KK.length) (K.off KK KK.length))
  c6 : w.cell? ⟨G, 6, none⟩ = some (.slice (some ⟨ta, 0, none⟩) (A.off AA AA.length) (A.off AA AA.length))
  ln : LN w B1 G LS lv Mn
  dj : ∀ c, FB KK AA mk sk ma sa tk ta c → c ≠ G ∧ lv.ownBlock ≠ some c ∧ c ≠ Mn
  hb : ∀ c, FB KK AA mk sk ma sa tk ta c → c < w.heap.size

theorem PZ.step {O : Nat → Nat} {w w' : World} {B1 lo G : Nat} {KK AA : List (Nat × Nat)} {mk sk ma sa : Value} {tk ta : Nat} {LS : List (Nat × Nat)} {lv lv' : Value} {Mn : Nat} {L2 : List (Nat × Nat)} {S : Nat → Prop} (h : PZ O w B1 lo G KK AA mk sk ma sa tk ta LS lv Mn) (hl : LN w' B1 G (LS ++ L2) lv' Mn) (k : Kept S w w') (hS : ∀ c, FB KK AA mk sk ma sa tk ta c → S c) (hc : ∀ j, j ≠ 8 → j ≠ 9 → w'.cell? ⟨G, j, none⟩ = w.cell? ⟨G, j, none⟩) (hf : ∀ j, w'.frozen? ⟨G, j, none⟩ = w.frozen? ⟨G, j, none⟩) (hb : lv'.ownBlock = lv.ownBlock ∨ ∃ c, lv'.ownBlock = some c ∧ w.heap.size ≤ c) :
    PZ O w' B1 lo G KK AA mk sk ma sa tk ta (LS ++ L2) lv' Mn := by
  refine ⟨h.gk.frame k (fun e he => hS _ (.inr (.inr (.inr (.inr (.inl ⟨e, he, rfl⟩)))))) (fun d hd => hS d (.inl hd)) ((hc 0 (by decide) (by decide)).trans h.gk.gm) ((hc 1 (by decide) (by decide)).trans h.gk.gs) (fun j => (hf j).trans (h.gk.gf j)), h.ga.frame k (fun e he => hS _ (.inr (.inr (.inr (.inr (.inr ⟨e, he, rfl⟩)))))) (fun d hd => hS d (.inr (.inl hd))) ((hc 4 (by decide) (by decide)).trans h.ga.gm) ((hc 5 (by decide) (by decide)).trans h.ga.gs) (fun j => (hf j).trans (h.ga.gf j)), h.tK.kept k (hS _ (.inr (.inr (.inl rfl)))), h.tA.kept k (hS _ (.inr (.inr (.inr (.inl rfl))))), (hc 2 (by decide) (by decide)).trans h.c2, (hc 6 (by decide) (by decide)).trans h.c6, hl, fun c hcc => ?_, fun c hcc => Nat.lt_of_lt_of_le (h.hb c hcc) k.size⟩
  obtain ⟨d1, d2, d3⟩ := h.dj c hcc
  refine ⟨d1, ?_, d3⟩
  rcases hb with e | ⟨q, e, hq⟩
  · rw [e]; exact d2
  · rw [e]
    intro e2
    have e3 : q = c := Option.some.inj e2
    have := h.hb c hcc
    omega

theorem PZ.list {O : Nat → Nat} {w w' : World} {B1 lo G : Nat} {KK AA : List (Nat × Nat)} {mk sk ma sa : Value} {tk ta : Nat} {LS : List (Nat × Nat)} {lv lv' : Value} {Mn : Nat} {L2 : List (Nat × Nat)} {x : Nat × Nat} {i : Nat} (h : PZ O w B1 lo G KK AA mk sk ma sa tk ta LS lv Mn) (q : LQ w w' B1 G LS lv Mn x i L2 lv') : PZ O w' B1 lo G KK AA mk sk ma sa tk ta (LS ++ L2) lv' Mn :=
  h.step q.ln q.kept (fun c hc => h.dj c hc) (fun j _ h9 => q.cell j h9) q.froz q.blk

set_option maxHeartbeats 4000000 in
set_option maxRecDepth 100000 in
/-- No kids. -/
theorem kidList0 {w : World} {B1 G : Nat} {LS : List (Nat × Nat)} {lv : Value} {Mn : Nat} (h : LN w B1 G LS lv Mn) (h0 : LS[0]? = some (0, 0)) (a : Option Addr) (cap : Nat) :
    Calls Try.prog 23 #[.pointer (some ⟨G, 0, none⟩), .slice a 0 cap] w fun e w' => e = .returned (.int .i64 0) ∧ LQ w w' B1 G LS lv Mn (0, 0) 0 [] lv := by
  have HE := hide (LQ.same h h0 (Kept.refl _ w))
  clear h h0
  go_enter Try.func23, Try.ntmps23
  go_wp2_with fail
  go_ret
  exact ⟨rfl, HE.out⟩

set_option maxHeartbeats 4000000 in
set_option maxRecDepth 100000 in
theorem altList0 {w : World} {B1 G : Nat} {LS : List (Nat × Nat)} {lv : Value} {Mn : Nat} (h : LN w B1 G LS lv Mn) (h0 : LS[0]? = some (0, 0)) (a : Option Addr) (cap : Nat) :
    Calls Try.prog 61 #[.pointer (some ⟨G, 0, none⟩), .slice a 0 cap] w fun e w' => e = .returned (.int .i64 0) ∧ LQ w w' B1 G LS lv Mn (0, 0) 0 [] lv := by
  have HE := hide (LQ.same h h0 (Kept.refl _ w))
  clear h h0
  go_enter Try.func61, Try.ntmps61
  go_wp2_with fail
  go_ret
  exact ⟨rfl, HE.out⟩

set_option maxHeartbeats 4000000 in
set_option maxRecDepth 100000 in
/-- The number of a list of kids. -/
theorem kidList1 {O : Nat → Nat} {w : World} {B1 lo G : Nat} {KK AA : List (Nat × Nat)} {mk sk ma sa : Value} {tk ta : Nat} {LS : List (Nat × Nat)} {lv : Value} {Mn : Nat} (h : PZ O w B1 lo G KK AA mk sk ma sa tk ta LS lv Mn) (hn : (KK.map Prod.fst).Nodup) {k b n cap : Nat} (hk : KK[k]? = some (b, n)) (hn0 : 0 < n) (hl : LS.length ≤ 10000000) (hK : KK.length ≤ 10000000) (hof : K.off KK KK.length ≤ 10000000) :
    Calls Try.prog 23 #[.pointer (some ⟨G, 0, none⟩), .slice (some ⟨b, O b, none⟩) n cap] w fun e w' => ∃ (i : Nat) (L2 : List (Nat × Nat)) (lv' : Value), e = .returned (.int .i64 (i : Int)) ∧ LQ w w' B1 G LS lv Mn (K.off KK k, n) i L2 lv' := by
  have hkl : k < KK.length := (List.getElem?_eq_some_iff.1 hk).1
  have hle := K.off_lt hk hkl
  have hG : G < w.heap.size := block_lt_of_cell h.c2
  have hfk : K.fsI KK KK.length k = (K.off KK k : Int) := if_pos hkl
  obtain ⟨P, hP⟩ : ∃ P, K.off KK k = P := ⟨_, rfl⟩
  have HN : Hid (∀ V, Kept (fun _ => True) w V → Calls Try.prog 46 #[.pointer (some ⟨G, 0, none⟩), .pointer (some ⟨b, O b, none⟩)] V fun r V' => ∃ v, r = .returned v ∧ (v = .int .i64 (P : Int) ∧ Kept (fun _ => True) w V')) := fun V kV => by
    have h1 := K.i_number (h.gk.kept kV) hn hk (j := 0) hn0 hK (by rw [hfk]; dsimp only at hle; omega) (by dsimp only at hle ⊢; omega)
    rw [Nat.zero_mul, Nat.add_zero] at h1
    refine h1.mono ?_
    rintro r V' ⟨rfl, k2⟩
    exact ⟨_, rfl, by rw [hfk, hP]; simp, kV.trans k2⟩
  have HL : Hid (∀ V, Kept (fun _ => True) w V → Calls Try.prog 45 #[.pointer (some ⟨G, 0, none⟩), .agg #[.int .i64 (P : Int), .int .i64 (n : Int)]] V fun e w' => ∃ v, e = .returned v ∧ ∃ (i : Nat) (L2 : List (Nat × Nat)) (lv' : Value), v = .int .i64 (i : Int) ∧ LQ w w' B1 G LS lv Mn (P, n) i L2 lv') := fun V kV => by
    refine (i_list (h.ln.kept kV trivial trivial (fun _ _ => trivial)) (P, n) hl).mono ?_
    rintro e w' ⟨i, L2, lv', rfl, q⟩
    exact ⟨_, rfl, i, L2, lv', rfl, q.pre hG kV⟩
  have hn1 : ¬ (n : Int) = 0 := by omega
  have hn2 : (0 : Int) < (n : Int) := by omega
  rw [hP]
  clear h hn hk hl hK hof hkl hle hG hfk hP
  go_enter Try.func23, Try.ntmps23
  go_upto_region 3 with fail
  go_region_law (first
    | (refine step_call (by rfl) 46 #[.pointer (some ⟨G, 0, none⟩), .pointer (some ⟨b, O b, none⟩)] (by simp [go_sem]) _ (HN.out _ (Kept.drew _ _)) ?_; rintro v5 W5 ⟨rfl, h5⟩; have K5 := hide h5; clear h5)
    | (refine step_call (by rfl) 45 #[.pointer (some ⟨G, 0, none⟩), .agg #[.int .i64 (P : Int), .int .i64 (n : Int)]] (by simp [go_sem]) _ (HL.out _ K5.out) ?_; rintro v6 W6 ⟨i6, L6, lv6, rfl, h6⟩; have K6 := hide h6; clear h6)
    | fail)
  all_goals
    go_wp2_with fail
    go_ret
    exact ⟨i6, rfl, L6, lv6, K6.out⟩

set_option maxHeartbeats 4000000 in
set_option maxRecDepth 100000 in
/-- The number of a list of alternatives. -/
theorem altList1 {O : Nat → Nat} {w : World} {B1 lo G : Nat} {KK AA : List (Nat × Nat)} {mk sk ma sa : Value} {tk ta : Nat} {LS : List (Nat × Nat)} {lv : Value} {Mn : Nat} (h : PZ O w B1 lo G KK AA mk sk ma sa tk ta LS lv Mn) (hn : (AA.map Prod.fst).Nodup) {k b n cap : Nat} (hk : AA[k]? = some (b, n)) (hn0 : 0 < n) (hl : LS.length ≤ 10000000) (hK : AA.length ≤ 10000000) (hof : A.off AA AA.length ≤ 10000000) (hok : K.off KK KK.length ≤ 10000000) :
    Calls Try.prog 61 #[.pointer (some ⟨G, 0, none⟩), .slice (some ⟨b, O b, none⟩) n cap] w fun e w' => ∃ (i : Nat) (L2 : List (Nat × Nat)) (lv' : Value), e = .returned (.int .i64 (i : Int)) ∧ LQ w w' B1 G LS lv Mn (K.off KK KK.length + A.off AA k, n) i L2 lv' := by
  have hkl : k < AA.length := (List.getElem?_eq_some_iff.1 hk).1
  have hle := A.off_lt hk hkl
  have hG : G < w.heap.size := block_lt_of_cell h.c2
  have hfk : A.fsI AA AA.length k = (A.off AA k : Int) := if_pos hkl
  obtain ⟨P, hP⟩ : ∃ P, A.off AA k = P := ⟨_, rfl⟩
  obtain ⟨C, hC⟩ : ∃ C, K.off KK KK.length = C := ⟨_, rfl⟩
  have hPC : (C : Int) + (P : Int) = ((C + P : Nat) : Int) := by simp
  obtain ⟨Q, hQ⟩ : ∃ Q, C + P = Q := ⟨_, rfl⟩
  rw [hQ] at hPC
  have hPb : P ≤ 10000000 := by rw [← hP]; dsimp only at hle; omega
  have hCb : C ≤ 10000000 := by omega
  have hQw : IntKind.i64.wrap (Q : Int) = (Q : Int) := wrap_small _ (by omega) (by omega)
  have HN : Hid (∀ V, Kept (fun _ => True) w V → Calls Try.prog 60 #[.pointer (some ⟨G, 4, none⟩), .pointer (some ⟨b, O b, none⟩)] V fun r V' => ∃ v, r = .returned v ∧ (v = .int .i64 (P : Int) ∧ Kept (fun _ => True) w V')) := fun V kV => by
    have h1 := A.i_number (h.ga.kept kV) hn hk (j := 0) hn0 hK (by rw [hfk]; dsimp only at hle; omega) (by dsimp only at hle ⊢; omega)
    rw [Nat.zero_mul, Nat.add_zero] at h1
    refine h1.mono ?_
    rintro r V' ⟨rfl, k2⟩
    exact ⟨_, rfl, by rw [hfk, hP]; simp, kV.trans k2⟩
  have HL : Hid (∀ V, Kept (fun _ => True) w V → Calls Try.prog 45 #[.pointer (some ⟨G, 0, none⟩), .agg #[.int .i64 (Q : Int), .int .i64 (n : Int)]] V fun e w' => ∃ v, e = .returned v ∧ ∃ (i : Nat) (L2 : List (Nat × Nat)) (lv' : Value), v = .int .i64 (i : Int) ∧ LQ w w' B1 G LS lv Mn (Q, n) i L2 lv') := fun V kV => by
    refine (i_list (h.ln.kept kV trivial trivial (fun _ _ => trivial)) (Q, n) hl).mono ?_
    rintro e w' ⟨i, L2, lv', rfl, q⟩
    exact ⟨_, rfl, i, L2, lv', rfl, q.pre hG kV⟩
  have H2 : Hid (∀ V, Kept (fun _ => True) w V → V.cell? ⟨G, 2, none⟩ = some (.slice (some ⟨tk, 0, none⟩) C C)) := fun V kV => by rw [← hC]; exact (kV.cell (p := ⟨G, 2, none⟩) hG trivial).trans h.c2
  have hn1 : ¬ (n : Int) = 0 := by omega
  have hn2 : (0 : Int) < (n : Int) := by omega
  rw [hP, hC, hQ]
  have c1 := H2.out w (Kept.refl _ _)
  have c1' := H2.out w.drew (Kept.drew _ _)
  clear h hn hk hl hK hof hkl hle hG hfk hP hC hQ hok
  go_enter Try.func61, Try.ntmps61
  go_upto_region 3 with fail
  go_region_law (first
    | (refine step_call (by rfl) 60 #[.pointer (some ⟨G, 4, none⟩), .pointer (some ⟨b, O b, none⟩)] (by simp [go_sem]) _ (HN.out _ (Kept.drew _ _)) ?_; rintro v5 W5 ⟨rfl, h5⟩; have K5 := hide h5; have c5 := H2.out W5 h5; clear h5)
    | (refine step_call (by rfl) 45 #[.pointer (some ⟨G, 0, none⟩), .agg #[.int .i64 (Q : Int), .int .i64 (n : Int)]] (by simp [go_sem]) _ (HL.out _ K5.out) ?_; rintro v6 W6 ⟨i6, L6, lv6, rfl, h6⟩; have K6 := hide h6; clear h6)
    | fail)
  all_goals
    go_wp2_with fail
    go_ret
    exact ⟨i6, rfl, L6, lv6, K6.out⟩

end Go.Proofs.Ytfgmgbkiebeeoaa
