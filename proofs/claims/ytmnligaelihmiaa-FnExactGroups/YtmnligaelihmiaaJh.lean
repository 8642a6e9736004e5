import Derived.Test.YtmnligaelihmiaaGx
import Derived.Test.YtmnligaelihmiaaMe
import Derived.Test.YtmnligaelihmiaaMg
import Derived.Test.YtmnligaelihmiaaKa
import Derived.Test.YtmnligaelihmiaaGy
import Derived.Test.YtmnligaelihmiaaMf
import Derived.Test.YtmnligaelihmiaaUx
namespace Go.Proofs.Ytmnligaelihmiaa
open Go.RowKit Go.Joins
/-- The rows that an argument holds. -/
def ints : Fo → List Int
  | .v (.int _ x) r => x :: ints r
  | _ => []
def rows : Fo → List (List Int)
  | .s _ _ _ ks r => ints ks :: rows r
  | _ => []
theorem ints_fit : ∀ (n : Nat) {F : Fo}, Fit E F (rep (E 0) n) → (ints F).length = n ∧ F.vals = (ints F).map (fun x => Value.int .i64 x)
  | 0, F, h => by rw [fit_nil h]; exact ⟨rfl, rfl⟩
  | n + 1, F, h => by
    obtain ⟨x, r, rfl, -, hr⟩ := fit_i h
    obtain ⟨h1, h2⟩ := ints_fit n hr
    exact ⟨by simp [ints, h1], by simp [ints, Fo.vals, h2]⟩
theorem rows_fit : ∀ (n : Nat) {F : Fo}, Fit E F (rep (E 1) n) → (rows F).length = n ∧ ∀ r ∈ rows F, r.length ≤ F.wt
  | 0, F, h => by rw [fit_nil h]; exact ⟨rfl, fun r hr => by simp [rows] at hr⟩
  | n + 1, F, h => by
    obtain ⟨a, m, c, k, q, rfl, hk, hr⟩ := fit_s h
    obtain ⟨h1, h2⟩ := rows_fit n hr
    refine ⟨by simp [rows, h1], fun r hm => ?_⟩
    simp only [rows, List.mem_cons] at hm
    simp only [Fo.wt]
    rcases hm with rfl | hm
    · rw [(ints_fit m hk).1]; omega
    · have := h2 r hm; omega
theorem ints_sim : ∀ {G F : Fo}, G.sim F → ints G = ints F
  | .nil, .nil, _ => rfl
  | .v x r, .v y q, ⟨e, h⟩ => by
    subst e
    have := ints_sim h
    cases x <;> simp [ints, this]
  | .s _ _ _ _ _, .s _ _ _ _ _, _ => rfl
  | .nil, .v _ _, h => h.elim
  | .nil, .s _ _ _ _ _, h => h.elim
  | .v _ _, .nil, h => h.elim
  | .v _ _, .s _ _ _ _ _, h => h.elim
  | .s _ _ _ _ _, .nil, h => h.elim
  | .s _ _ _ _ _, .v _ _, h => h.elim
theorem rows_sim : ∀ {G F : Fo}, G.sim F → rows G = rows F
  | .nil, .nil, _ => rfl
  | .v _ _, .v _ _, _ => rfl
  | .s _ _ _ _ _, .s _ _ _ _ _, ⟨_, h1, h2⟩ => by simp only [rows, ints_sim h1, rows_sim h2]
  | .nil, .v _ _, h => h.elim
  | .nil, .s _ _ _ _ _, h => h.elim
  | .v _ _, .nil, h => h.elim
  | .v _ _, .s _ _ _ _ _, h => h.elim
  | .s _ _ _ _ _, .nil, h => h.elim
  | .s _ _ _ _ _, .v _ _, h => h.elim
theorem rows_at {W : World} {S : Nat → Prop} : ∀ (n : Nat) {F : Fo}, Fit E F (rep (E 1) n) → F.Subs W S → ∀ (x : Nat) (r : List Int), (rows F)[x]? = some r → ∃ ax cx, F.vals[x]? = some (Value.slice ax r.length cx) ∧ ∀ j v, r[j]? = some v → ∃ bb oo, ax = some ⟨bb, oo, none⟩ ∧ S bb ∧ W.cell? ⟨bb, oo + j, none⟩ = some (.int .i64 v)
  | 0, F, h, _, x, r, hx => by rw [fit_nil h] at hx; simp [rows] at hx
  | n + 1, F, h, hs, x, r, hx => by
    obtain ⟨a, m, c, k, q, rfl, hk, hr⟩ := fit_s h
    obtain ⟨h1, h2⟩ := ints_fit m hk
    cases x with
    | zero =>
      simp only [rows, List.getElem?_cons_zero, Option.some.injEq] at hx
      subst hx
      refine ⟨a, c, by rw [h1]; rfl, fun j v hv => ?_⟩
      have hl : 0 < k.len := by
        rw [← Fo.vals_length, h2, List.length_map]
        have := (List.getElem?_eq_some_iff.1 hv).1
        omega
      obtain ⟨b, o, e, sb, hc, -⟩ := hs.1.2.2 hl
      exact ⟨b, o, e, sb, hc j _ (by rw [h2, List.getElem?_map, hv]; rfl)⟩
    | succ x =>
      simp only [rows, List.getElem?_cons_succ] at hx
      obtain ⟨ax, cx, g1, g2⟩ := rows_at n hr hs.2 x r hx
      exact ⟨ax, cx, by simpa [Fo.vals] using g1, g2⟩
theorem em_of {W : World} {n n0 c : Nat} {a : Option Addr} {K : Fo} (hf : Fit E K (rep (E 1) n)) (hs : K.Sub W (fun c => c < n0) a n c) : EM (rows K) n0 a W := fun x r hx => by
  have hl : 0 < K.len := by
    rw [Fit.len hf, rep_len]
    have := (List.getElem?_eq_some_iff.1 hx).1
    rw [(rows_fit n hf).1] at this
    show 0 < n * 1
    omega
  obtain ⟨b, o, e, sb, hc, hk⟩ := hs.2.2 hl
  obtain ⟨ax, cx, g1, g2⟩ := rows_at n hf hk x r hx
  exact ⟨b, o, ax, cx, e, sb, hc x _ g1, g2⟩
/-- The groups of what names what, in order. -/
def GS (e : List (List Int)) (gs : List (List Nat)) : Prop := ∃ of m l, Gr.Part e of m ∧ Gr.Sq e of m l ∧ (∀ g, g < m → g ∈ l) ∧ gs = l.map (Gr.gm of e.length)
open Classical in
noncomputable def grp (e : List (List Int)) : List (List Nat) := if h : ∃ gs, GS e gs then Classical.choose h else []
theorem grp_eq {e : List (List Int)} {gs : List (List Nat)} (h : GS e gs) : grp e = gs := by
  have hx : ∃ gs, GS e gs := ⟨gs, h⟩
  unfold grp
  rw [dif_pos hx]
  obtain ⟨of1, m1, l1, a1, a2, a3, a4⟩ := Classical.choose_spec hx
  obtain ⟨of2, m2, l2, b1, b2, b3, b4⟩ := h
  obtain ⟨rfl, e2⟩ := Gr.Part.order a1 b1 a2 a3 b2 b3
  rw [a4, b4]
  exact List.map_congr_left (fun g _ => e2 g)
theorem gm_mem {of : Nat → Nat} {n g x : Nat} (h : x ∈ Gr.gm of n g) : x < n ∧ of x = g := by
  unfold Gr.gm at h
  rw [List.mem_filter] at h
  exact ⟨List.mem_range.1 h.1, by simpa using h.2⟩
theorem grp_facts (e : List (List Int)) : (∀ g ∈ grp e, ∀ x ∈ g, x < e.length) ∧ (grp e).flatten.length ≤ e.length := by
  by_cases hx : ∃ gs, GS e gs
  · obtain ⟨gs, h⟩ := hx
    rw [grp_eq h]
    obtain ⟨of, m, l, h1, h2, h3, rfl⟩ := h
    have hlt : ∀ g ∈ l.map (Gr.gm of e.length), ∀ x ∈ g, x < e.length := fun g hg x hx => by
      obtain ⟨k, -, rfl⟩ := List.mem_map.1 hg
      exact (gm_mem hx).1
    refine ⟨hlt, ?_⟩
    have hnd : (l.map (Gr.gm of e.length)).flatten.Nodup := by
      unfold List.Nodup
      rw [List.pairwise_flatten]
      refine ⟨fun g hg => ?_, ?_⟩
      · obtain ⟨k, -, rfl⟩ := List.mem_map.1 hg
        exact List.nodup_range.filter _
      · rw [List.pairwise_map]
        refine h2.nodup.imp (fun {g k} hgk x hx y hy e1 => hgk ?_)
        rw [← (gm_mem hx).2, ← (gm_mem hy).2, e1]
    have := Gr.nodup_sub (m := List.range e.length) hnd (fun x hx => by
      obtain ⟨g, hg, hx⟩ := List.mem_flatten.1 hx
      exact List.mem_range.2 (hlt g hg x hx))
    simpa using this
  · unfold grp
    rw [dif_neg hx]
    exact ⟨fun g hg => by simp at hg, by simp⟩
/-- The answer as a row of rows. -/
def fInts : List Nat → Fo
  | [] => .nil
  | x :: r => .v (iv x) (fInts r)
def fRow : List (List Nat) → Fo
  | [] => .nil
  | g :: r => .s none g.length g.length (fInts g) (fRow r)
theorem fInts_fit : ∀ (g : List Nat), (∀ x ∈ g, x ≤ 1048576) → Fit E (fInts g) (rep (E 0) g.length) ∧ (fInts g).ct = g.length ∧ (fInts g).inn = [] ∧ (fInts g).vals = g.map iv
  | [], _ => ⟨trivial, rfl, rfl, rfl⟩
  | x :: r, h => by
    obtain ⟨h1, h2, h3, h4⟩ := fInts_fit r (fun y hy => h y (List.mem_cons_of_mem _ hy))
    have hx := h x List.mem_cons_self
    exact ⟨⟨by
      have e1 : IntKind.i64.min = -9223372036854775808 := by decide
      have e2 : IntKind.i64.max = 9223372036854775807 := by decide
      simp [Lit.wf]; omega, h1⟩, by simp [fInts, Fo.ct, h2], by simp [fInts, Fo.inn, h3], by simp [fInts, Fo.vals, h4]⟩
theorem fRow_fit : ∀ (gs : List (List Nat)), (∀ g ∈ gs, ∀ x ∈ g, x ≤ 1048576) → Fit E (fRow gs) (rep (E 1) gs.length) ∧ (fRow gs).ct = gs.flatten.length
  | [], _ => ⟨trivial, rfl⟩
  | g :: r, h => by
    obtain ⟨h1, h2⟩ := fRow_fit r (fun y hy => h y (List.mem_cons_of_mem _ hy))
    obtain ⟨g1, g2, -, -⟩ := fInts_fit g (h g List.mem_cons_self)
    exact ⟨⟨g1, h1⟩, by simp [fRow, Fo.ct, h2, g2]⟩
noncomputable def gU : Fo → Fo
  | .s _ _ _ K _ => .s none (grp (rows K)).length (grp (rows K)).length (fRow (grp (rows K))) .nil
  | _ => .s none 0 0 .nil .nil
theorem gU_fit {F : Fo} (hf : Fit E F [.s 1]) (hw : F.wt ≤ 1048576) : Fit E (gU F) [.s 1] ∧ (gU F).sct ≤ 1048577 := by
  obtain ⟨a, n, c, K, r, rfl, hk, hr⟩ := fit_s hf
  obtain rfl := fit_nil hr
  simp only [Fo.wt] at hw
  obtain ⟨h1, h2⟩ := grp_facts (rows K)
  have h3 := (rows_fit n hk).1
  obtain ⟨h4, h5⟩ := fRow_fit (grp (rows K)) (fun g hg x hx => by have := h1 g hg x hx; omega)
  exact ⟨⟨h4, trivial⟩, by simp only [gU, Fo.sct, h5]; omega⟩
theorem gU_sim {F G : Fo} (hf : Fit E F [.s 1]) (h : G.sim F) : (gU G).sim (gU F) := by
  obtain ⟨a, n, c, K, r, rfl, hk, hr⟩ := fit_s hf
  obtain ⟨d, e, j, q, rfl, h1, h2⟩ := Fo.sim_s h
  simp only [gU, rows_sim h1]
  exact Fo.sim.refl _
end Go.Proofs.Ytmnligaelihmiaa

namespace Go.Proofs.Ytmnligaelihmiaa
open Go.RowKit Go.Joins
/-- Rows with their blocks and room. -/
def oRow : List (Nat × Nat × List Nat) → Fo
  | [] => .nil
  | t :: r => .s (some ⟨t.1, 0, none⟩) t.2.2.length t.2.1 (fInts t.2.2) (oRow r)
theorem fInts_plain (W : World) (S : Nat → Prop) : ∀ (g : List Nat), (fInts g).Subs W S ∧ (fInts g).inn = [] ∧ (fInts g).vals = g.map iv ∧ (fInts g).len = g.length
  | [] => ⟨trivial, rfl, rfl, rfl⟩
  | x :: r => by
    obtain ⟨h1, h2, h3, h4⟩ := fInts_plain W S r
    exact ⟨h1, by simp [fInts, Fo.inn, h2], by simp [fInts, Fo.vals, h3], by simp [fInts, Fo.len, h4]⟩
theorem oRow_vals : ∀ T : List (Nat × Nat × List Nat), (oRow T).vals = T.map (fun t => Value.slice (some ⟨t.1, 0, none⟩) t.2.2.length t.2.1)
  | [] => rfl
  | t :: r => by simp [oRow, Fo.vals, oRow_vals r]
theorem oRow_sim : ∀ T : List (Nat × Nat × List Nat), (oRow T).sim (fRow (T.map (fun t => t.2.2)))
  | [] => trivial
  | _ :: r => ⟨rfl, Fo.sim.refl _, oRow_sim r⟩
theorem oRow_subs {W : World} {S : Nat → Prop} : ∀ {T : List (Nat × Nat × List Nat)}, (∀ t ∈ T, S t.1 ∧ t.2.2.length ≤ t.2.1 ∧ t.2.1 ≤ maxLen ∧ ∀ j, j < t.2.2.length → W.cell? ⟨t.1, j, none⟩ = some (iv (t.2.2.getD j 0))) → (oRow T).Subs W S
  | [], _ => trivial
  | t :: r, h => by
    obtain ⟨h1, h2, h3, h4⟩ := h t List.mem_cons_self
    obtain ⟨g1, g2, g3, g4⟩ := fInts_plain W S t.2.2
    refine ⟨⟨h2, h3, fun _ => ⟨t.1, 0, rfl, h1, fun i v hv => ?_, g1⟩⟩, oRow_subs (fun u hu => h u (List.mem_cons_of_mem _ hu))⟩
    rw [g3, List.getElem?_map] at hv
    obtain ⟨y, hy, rfl⟩ := Option.map_eq_some_iff.1 hv
    have hi := (List.getElem?_eq_some_iff.1 hy).1
    rw [Nat.zero_add, h4 i hi, List.getD_eq_getElem?_getD, hy]
    rfl
theorem oRow_inn : ∀ T : List (Nat × Nat × List Nat), (oRow T).inn.Sublist (T.map (fun t => t.1))
  | [] => List.Sublist.refl _
  | t :: r => by
    have h1 := oRow_inn r
    obtain ⟨-, g2, -, g4⟩ := fInts_plain default (fun _ => True) t.2.2
    simp only [oRow, Fo.inn, g2, g4, List.append_nil, List.map_cons]
    cases t.2.2.length with
    | zero => exact (h1.cons _)
    | succ n => exact h1.cons_cons _
theorem list_ex {α β : Type} : ∀ {l : List α} {P : Nat → α → β → Prop}, (∀ i a, l[i]? = some a → ∃ b, P i a b) → ∃ T : List β, T.length = l.length ∧ ∀ i a, l[i]? = some a → ∃ b, T[i]? = some b ∧ P i a b
  | [], _, _ => ⟨[], rfl, fun i a h => by simp at h⟩
  | a :: l, P, h => by
    obtain ⟨b, hb⟩ := h 0 a rfl
    obtain ⟨T, hT, h2⟩ := list_ex (l := l) (P := fun i => P (i + 1)) (fun i a ha => h (i + 1) a (by simpa using ha))
    refine ⟨b :: T, by simp [hT], fun i x hx => ?_⟩
    cases i with
    | zero => simp only [List.getElem?_cons_zero, Option.some.injEq] at hx; subst hx; exact ⟨b, rfl, hb⟩
    | succ i => simpa using h2 i x (by simpa using hx)
theorem own_up {W : World} {B size n : Nat} {e : TypeId} {v : Value} {xs : List Value} (h : W.ownsRow 0 e size v n xs) (hB : ∀ c, v.ownBlock = some c → B ≤ c) : W.ownsRow B e size v n xs := by
  refine ⟨h.1, ?_⟩
  rcases h.2 with h2 | ⟨b, cap, cur, rfl, hb, r⟩
  · exact .inl h2
  · exact .inr ⟨b, cap, cur, rfl, hB b rfl, r⟩
/-- What is answered, as a row. -/
theorem AnsG.row {n0 : Nat} {G : Nat → List Nat} {l : List Nat} {v : Value} {W : World} (h : AnsG n0 G l v W) :
    ∃ a c T, v = .slice a l.length c ∧ (T.map (fun t : Nat × Nat × List Nat => t.2.2)) = l.map G ∧ Fo.Subs W (fun c => n0 ≤ c ∧ c < W.heap.size) (.s a l.length c (oRow T) .nil) := by
  obtain ⟨xs, h1, h2, h3⟩ := h
  obtain ⟨T, hT, hx⟩ := list_ex (l := l) (P := fun i g (t : Nat × Nat × List Nat) => t.2.2 = G g ∧ xs[i]? = some (.slice (some ⟨t.1, 0, none⟩) t.2.2.length t.2.1) ∧ (n0 ≤ t.1 ∧ t.1 < W.heap.size) ∧ t.2.2.length ≤ t.2.1 ∧ t.2.1 ≤ maxLen ∧ ∀ j, j < t.2.2.length → W.cell? ⟨t.1, j, none⟩ = some (iv (t.2.2.getD j 0)))
    (fun i g hg => by
      obtain ⟨gb, gc, a1, a2, a3, a4, a5, a6⟩ := h3 i g hg
      exact ⟨(gb, gc, G g), rfl, a1, ⟨a2, a3⟩, a4, a5, a6⟩)
  have hl : xs.length = l.length := by have := h1.1; omega
  have hat : ∀ i, i < l.length → ∃ t, T[i]? = some t ∧ t.2.2 = G (l.getD i 0) ∧ xs[i]? = some (.slice (some ⟨t.1, 0, none⟩) t.2.2.length t.2.1) ∧ (n0 ≤ t.1 ∧ t.1 < W.heap.size) ∧ t.2.2.length ≤ t.2.1 ∧ t.2.1 ≤ maxLen ∧ ∀ j, j < t.2.2.length → W.cell? ⟨t.1, j, none⟩ = some (iv (t.2.2.getD j 0)) := fun i hi => by
    obtain ⟨t, b1, b2⟩ := hx i (l.getD i 0) (by rw [List.getD_eq_getElem?_getD, List.getElem?_eq_getElem hi]; rfl)
    exact ⟨t, b1, b2⟩
  have hv : xs = (oRow T).vals := by
    rw [oRow_vals]
    refine List.ext_getElem? (fun i => ?_)
    by_cases hi : i < l.length
    · obtain ⟨t, b1, -, b3, -⟩ := hat i hi
      rw [b3, List.getElem?_map, b1]; rfl
    · rw [List.getElem?_eq_none (by omega), List.getElem?_eq_none (by rw [List.length_map]; omega)]
  have hs : (oRow T).Subs W (fun c => n0 ≤ c ∧ c < W.heap.size) := oRow_subs (fun t ht => by
    obtain ⟨i, hi⟩ := List.getElem?_of_mem ht
    have hil : i < l.length := by have := (List.getElem?_eq_some_iff.1 hi).1; omega
    obtain ⟨t', b1, b2, b3, b4, b5, b6, b7⟩ := hat i hil
    rw [hi] at b1
    cases b1
    exact ⟨b4, b5, b6, b7⟩)
  have hm : (T.map (fun t : Nat × Nat × List Nat => t.2.2)) = l.map G := by
    refine List.ext_getElem? (fun i => ?_)
    by_cases hi : i < l.length
    · obtain ⟨t, b1, b2, -⟩ := hat i hi
      rw [List.getElem?_map, List.getElem?_map, b1, List.getElem?_eq_getElem hi]
      simp only [Option.map_some, b2]
      rw [List.getD_eq_getElem?_getD, List.getElem?_eq_getElem hi]; rfl
    · rw [List.getElem?_eq_none (by rw [List.length_map]; omega), List.getElem?_eq_none (by rw [List.length_map]; omega)]
  have ho := own_up h1 h2
  rw [hv] at ho
  rcases ho.2 with ⟨rfl, h0⟩ | ⟨b, cap, cur, rfl, hb, hg, hnc, hcm, -⟩
  · refine ⟨none, 0, T, by rw [h0], hm, ⟨by omega, by simp [maxLen], fun hl2 => ?_⟩, trivial⟩
    rw [← Fo.vals_length, ← hv] at hl2
    omega
  · refine ⟨_, cap, T, rfl, hm, ⟨hnc, hcm, fun _ => ⟨b, 0, rfl, ⟨hb, (Array.getElem?_eq_some_iff.1 hg).1⟩, fun i u hu => ?_, hs⟩⟩, trivial⟩
    have := ho.cells (g := b) rfl i u hu
    rwa [addr_add] at this
/-- .. of one's own. -/
theorem AnsO.row {n0 : Nat} {G : Nat → List Nat} {l : List Nat} {v : Value} {W : World} (h : AnsO n0 G l v W) :
    ∃ a c T, v = .slice a l.length c ∧ (T.map (fun t : Nat × Nat × List Nat => t.2.2)) = l.map G ∧ Own n0 W (.s a l.length c (oRow T) .nil) := by
  obtain ⟨a, c, T, rfl, hm, hs⟩ := h.ans.row
  suffices hq : (Fo.inn (.s a l.length c (oRow T) .nil)).Nodup ∧ Live W (Fo.inn (.s a l.length c (oRow T) .nil)) from ⟨a, c, T, rfl, hm, hs, hq.1, hq.2⟩
  obtain ⟨xs, h1, h2, h3⟩ := h
  have hTl : T.length = l.length := by have := congrArg List.length hm; simpa using this
  rcases h1.2 with ⟨e1, h0⟩ | ⟨b, cap, cur, e1, hb, hg, hnc, hcm, -⟩
  · have e2 : T = [] := List.eq_nil_of_length_eq_zero (by omega)
    subst e2
    simp only [Value.slice.injEq] at e1
    obtain ⟨rfl, -, -⟩ := e1
    exact ⟨by simp [Fo.inn, oRow, blk], fun c hc => by simp [Fo.inn, oRow, blk] at hc⟩
  · simp only [Value.slice.injEq] at e1
    obtain ⟨rfl, -, rfl⟩ := e1
    have hat : ∀ i, i < l.length → ∃ t, T[i]? = some t ∧ b ≠ t.1 ∧ (∀ j, W.frozen? ⟨t.1, j, none⟩ = false) ∧ xs[i]? = some (.slice (some ⟨t.1, 0, none⟩) t.2.2.length t.2.1) ∧ ∀ k, k < l.length → k ≠ i → ∀ hb n c, xs[k]? = some (.slice (some ⟨hb, 0, none⟩) n c) → hb ≠ t.1 := fun i hi => by
      obtain ⟨gb, gc, a1, a2, a3, a4, a5, a6⟩ := h3 i l[i] (List.getElem?_eq_getElem hi)
      have hL : 0 < (oRow T).len := by rw [← Fo.vals_length, oRow_vals, List.length_map]; omega
      obtain ⟨b', o', e3, -, hcel, -⟩ := hs.1.2.2 hL
      simp only [Option.some.injEq, Addr.mk.injEq, and_true] at e3
      obtain ⟨rfl, rfl⟩ := e3
      have hTi : T[i]? = some T[i] := List.getElem?_eq_getElem (by omega)
      have c1 := hcel i _ (by rw [oRow_vals, List.getElem?_map, hTi]; rfl)
      have c2 := World.ownsRow.cellAt h1 i (by omega)
      rw [Nat.zero_add] at c1
      rw [c1, a1] at c2
      simp only [Option.some.injEq, Value.slice.injEq, Addr.mk.injEq, and_true] at c2
      refine ⟨T[i], hTi, fun e4 => a5.2.1 (by rw [← c2.1, ← e4]; rfl), by rw [c2.1]; exact a5.2.2.1, by rw [a1, c2.1, c2.2.1, c2.2.2], by rw [c2.1]; exact a5.2.2.2⟩
    have hmem : ∀ t ∈ T, b ≠ t.1 ∧ ∀ j, W.frozen? ⟨t.1, j, none⟩ = false := fun t ht => by
      obtain ⟨i, hi⟩ := List.getElem?_of_mem ht
      obtain ⟨t', b1, b2, b3, -⟩ := hat i (by have := (List.getElem?_eq_some_iff.1 hi).1; omega)
      rw [hi] at b1
      cases b1
      exact ⟨b2, b3⟩
    have hnd : (T.map (fun t => t.1)).Nodup := by
      unfold List.Nodup
      rw [List.pairwise_map, List.pairwise_iff_getElem]
      intro i j hi hj hij e4
      obtain ⟨t, b1, -, -, b4, -⟩ := hat i (by omega)
      obtain ⟨u, d1, -, -, -, d5⟩ := hat j (by omega)
      rw [List.getElem?_eq_getElem hi] at b1
      rw [List.getElem?_eq_getElem hj] at d1
      cases b1
      cases d1
      exact d5 i (by omega) (by omega) _ _ _ b4 e4
    have hin : ∀ c ∈ (oRow T).inn, ∃ t ∈ T, t.1 = c := fun c hc => by
      obtain ⟨t, ht, e⟩ := List.mem_map.1 ((oRow_inn T).subset hc)
      exact ⟨t, ht, e⟩
    have h9 : (b :: (oRow T).inn).Nodup := List.nodup_cons.2 ⟨fun hc => by
      obtain ⟨t, ht, e⟩ := hin b hc
      exact (hmem t ht).1 e.symm, hnd.sublist (oRow_inn T)⟩
    refine ⟨?_, ?_⟩
    · simp only [Fo.inn, List.append_nil]; exact h9.sublist (blk_sub _ _ _)
    · intro c hc j
      simp only [Fo.inn, List.append_nil] at hc
      have hc2 := (blk_sub _ _ _).subset hc
      rcases List.mem_cons.1 hc2 with rfl | hc2
      · exact World.ownsRow.frozenAt h1 j
      · obtain ⟨t, ht, rfl⟩ := hin c hc2
        exact (hmem t ht).2 j
end Go.Proofs.Ytmnligaelihmiaa

namespace Go.Proofs.Ytmnligaelihmiaa
open Go.RowKit Go.Joins
theorem gU_of {a d : Option Addr} {n c j : Nat} {K r T : Fo} {gs : List (List Nat)} (h : grp (rows K) = gs) (hT : T.sim (fRow gs)) : Fo.sim (.s d gs.length j T .nil) (gU (.s a n c K r)) := by
  simp only [gU, h]
  exact ⟨rfl, hT, trivial⟩
theorem m_G (a : Option Addr) (n c : Nat) (K : Fo) (W : World) (hf : Fit E (.s a n c K .nil) [.s 1]) (hwt : Fo.wt (.s a n c K .nil) ≤ 1048576) (hs : Fo.Subs W (fun c => c < W.heap.size) (.s a n c K .nil)) :
    Calls Try.prog 9 #[.slice a n c] W fun e W' => ∃ (p : Option Addr) (q : Nat) (R : Fo), e = .returned (.slice p (grp (rows K)).length q) ∧ R.vals = [.slice p (grp (rows K)).length q] ∧ R.sim (gU (.s a n c K .nil)) ∧ R.Subs W' (fun c => c < W'.heap.size) ∧ Hid (Below W.heap.size W W') := by
  simp only [Fo.wt] at hwt
  obtain ⟨h1, h2⟩ := rows_fit n hf.1
  obtain ⟨of, m, hp⟩ := Gr.part_ex (rows K)
  have h3 := m_groups (ec := c) hp (by omega) (fun x r hr => by have := h2 r (List.mem_of_getElem? hr); omega) (em_of hf.1 hs.1) (Nat.le_refl _)
  rw [h1] at h3
  refine h3.mono ?_
  rintro e W' ⟨v, rfl, l, hq, hall, hm, hk⟩
  obtain ⟨d, j, T, rfl, hT, hsb⟩ := hm.ans.row
  have hg : grp (rows K) = l.map (Gr.gm of (rows K).length) := grp_eq ⟨of, m, l, hp, hq, hall, rfl⟩
  have hl : (grp (rows K)).length = l.length := by rw [hg, List.length_map]
  have hR := gU_of (a := a) (n := n) (c := c) (r := .nil) (d := d) (j := j) rfl (by rw [hg, h1, ← hT]; exact oRow_sim T)
  rw [hl] at hR ⊢
  exact ⟨d, j, .s d l.length j (oRow T) .nil, rfl, rfl, hR, hsb.mono (fun _ x => x.2), hk.below (fun _ hb => hb) (Nat.le_refl _)⟩
theorem i_G (a : Option Addr) (n c : Nat) (K : Fo) (W : World) (hf : Fit E (.s a n c K .nil) [.s 1]) (hwt : Fo.wt (.s a n c K .nil) ≤ 1048576) (hs : Fo.Subs W (fun c => c < W.heap.size) (.s a n c K .nil)) :
    Calls Try.prog 6 #[.slice a n c] W fun e W' => ∃ (p : Option Addr) (q : Nat) (R : Fo), e = .returned (.slice p (grp (rows K)).length q) ∧ R.vals = [.slice p (grp (rows K)).length q] ∧ R.sim (gU (.s a n c K .nil)) ∧ Own W.heap.size W' R ∧ Hid (Below W.heap.size W W') := by
  simp only [Fo.wt] at hwt
  obtain ⟨h1, h2⟩ := rows_fit n hf.1
  have h3 := i_groups (ec := c) (W := W) (by omega : (rows K).length ≤ 1048576) (fun x r hr => by have := h2 r (List.mem_of_getElem? hr); omega) (em_of hf.1 hs.1)
  rw [h1] at h3
  refine h3.mono ?_
  rintro e W' ⟨v, rfl, of, m, l, G, hp, hq, hlm, hall, hG, hm, hk⟩
  obtain ⟨d, j, T, rfl, hT, hsb⟩ := hm.row
  have hT2 : T.map (fun t => t.2.2) = l.map (Gr.gm of (rows K).length) := by
    rw [hT, h1]
    exact List.map_congr_left (fun g hg => hG g (hq.lt g hg))
  have hg : grp (rows K) = l.map (Gr.gm of (rows K).length) := grp_eq ⟨of, m, l, hp, hq, hall, rfl⟩
  have hl : (grp (rows K)).length = l.length := by rw [hg, List.length_map]
  have hR := gU_of (a := a) (n := n) (c := c) (r := .nil) (d := d) (j := j) rfl (by rw [hg, ← hT2]; exact oRow_sim T)
  rw [hl] at hR ⊢
  exact ⟨d, j, .s d l.length j (oRow T) .nil, rfl, rfl, hR, hsb, hk.below (fun _ hb => hb) (Nat.le_refl _)⟩
theorem hEM : ∀ k, (E k).length ≤ 1 := by
  intro k
  match k with
  | 0 | 1 => simp [E]
  | k + 2 => simp [E]
end Go.Proofs.Ytmnligaelihmiaa
