import Derived.Test.YtmfngmkhdppnjaaIm
namespace Go.Proofs.Ytmfngmkhdppnjaa
open Go.RowKit Go.Joins

def sumD (D : Nat → List Nat) : Nat → Nat
  | 0 => 0
  | i + 1 => sumD D i + (D i).length

theorem sumD_mono (D : Nat → List Nat) {i n : Nat} (h : i ≤ n) : sumD D i ≤ sumD D n := by
  induction n with
  | zero => obtain rfl : i = 0 := by omega
            exact Nat.le_refl _
  | succ n ih =>
    by_cases e : i = n + 1
    · subst e; exact Nat.le_refl _
    · have := ih (by omega)
      simp only [sumD]; omega

theorem imp_len (D : Nat → List Nat) (a : Nat) : ∀ i, (imp D i a).length ≤ sumD D i
  | 0 => by simp [imp, sumD]
  | i + 1 => by
    rw [imp_succ, List.length_append, List.length_replicate]
    have h1 := imp_len D a i
    have h2 : (D i).count a ≤ (D i).length := List.count_le_length
    simp only [sumD]; omega

def sumM : List Md → Nat
  | [] => 0
  | d :: r => d.im.length + sumM r

theorem sumM_app : ∀ (A B : List Md), sumM (A ++ B) = sumM A + sumM B
  | [], B => by simp [sumM]
  | d :: A, B => by simp only [List.cons_append, sumM, sumM_app A B]; omega

theorem dep_len {ms : List Md} {i : Nat} {d : Md} (h : ms[i]? = some d) : (dep ms i).length = d.im.length := by rw [dep_some h, List.length_map]

theorem sumD_dep (ms : List Md) : ∀ i, i ≤ ms.length → sumD (dep ms) i = sumM (ms.take i)
  | 0, _ => rfl
  | i + 1, h => by
    have h1 : ms[i]? = some (ms[i]'(by omega)) := by simp
    rw [List.take_add_one, h1, sumM_app]
    simp only [sumD, sumD_dep ms i (by omega), dep_len h1]
    simp [sumM]

theorem Fo.ims_len : ∀ F : Fo, F.ims.length ≤ F.len
  | .nil => Nat.le_refl _
  | .cons k _ _ _ _ r => by
    have := r.ims_len
    simp only [Fo.ims, Fo.len]
    split
    · simp only [List.length_cons]; omega
    · omega

theorem Fo.sumM_le : ∀ F : Fo, sumM F.md ≤ F.size
  | .nil => Nat.le_refl _
  | .cons _ _ _ _ ks r => by
    have h1 := r.sumM_le
    have h2 := ks.ims_len
    have h3 := ks.len_le
    simp only [Fo.md, sumM, Fo.size]; omega

theorem Fo.md_length (F : Fo) : F.md.length = F.len := by rw [Fo.md_l, List.length_map, Fo.l_length]

theorem Fo.sum_le (F : Fo) : sumD (dep F.md) F.len ≤ F.size := by
  rw [sumD_dep _ _ (by rw [F.md_length]; exact Nat.le_refl _), List.take_of_length_le (by rw [F.md_length]; exact Nat.le_refl _)]
  exact F.sumM_le

/-- What is told of who imports whom: i modules whole, q imports of the next. -/
structure PC (w3 wr : World) (mb n : Nat) (D : Nat → List Nat) (i q : Nat) (M : List Nat) (V : Nat → Value) : Prop where
  ml : n = M.length
  mr : MR wr (.slice (some ⟨mb, 0, none⟩) n n) M
  ms : ∀ k, k < n → g M k = if k < i then (D k).length else if k = i then q else 0
  im : ∀ a, a < n → wr.cell? ⟨mb + 1, a, none⟩ = some (V a) ∧ wr.frozen? ⟨mb + 1, a, none⟩ = false
  ro : ∀ a, a < n → IR (mb + 2) wr (V a) (imp D i a ++ List.replicate (((D i).take q).count a) i)
  di : ∀ a b, a < n → b < n → a ≠ b → ∀ c, (V a).ownBlock = some c → (V b).ownBlock ≠ some c
  be : Below mb w3 wr
  sz : mb + 2 ≤ wr.heap.size

theorem PC.kept {w3 wr w' : World} {mb n : Nat} {D : Nat → List Nat} {i q : Nat} {M : List Nat} {V : Nat → Value} (h : PC w3 wr mb n D i q M V) (hw : mb ≤ w3.heap.size) (k : Kept (fun _ => True) wr w') : PC w3 w' mb n D i q M V := by
  have hs := h.sz
  refine ⟨h.ml, h.mr.kept k (fun _ _ => trivial), h.ms, fun a ha => ⟨(k.cell (p := ⟨mb + 1, a, none⟩) (by show mb + 1 < _; omega) trivial).trans (h.im a ha).1, (k.frozen (p := ⟨mb + 1, a, none⟩) (by show mb + 1 < _; omega) trivial).trans (h.im a ha).2⟩,
    fun a ha => (h.ro a ha).kept k (fun _ _ => trivial), h.di, Below.kept h.be k (fun _ _ => trivial) hw, Nat.le_trans hs k.size⟩

theorem PC.next {w3 wr : World} {mb n : Nat} {D : Nat → List Nat} {i q : Nat} {M : List Nat} {V : Nat → Value} (h : PC w3 wr mb n D i q M V) (hq : q = (D i).length) : PC w3 wr mb n D (i + 1) 0 M V := by
  subst hq
  refine ⟨h.ml, h.mr, fun k hk => ?_, h.im, fun a ha => ?_, h.di, h.be, h.sz⟩
  · rw [h.ms k hk]
    by_cases e : k < i
    · rw [if_pos e, if_pos (by omega)]
    · rw [if_neg e]
      by_cases e2 : k = i
      · subst e2; rw [if_pos rfl, if_pos (by omega)]
      · rw [if_neg e2, if_neg (by omega)]
        split <;> rfl
  · have := h.ro a ha
    rw [List.take_of_length_le (Nat.le_refl _)] at this
    rw [imp_succ]
    simpa using this

/-- One import more. -/
theorem PC.step {w3 wr w2 w5 : World} {mb n : Nat} {D : Nat → List Nat} {i q x b cap len : Nat} {M : List Nat} {V : Nat → Value} (h : PC w3 wr mb n D i q M V) (hw : mb ≤ w3.heap.size) (hi : i < n) (hx : x < n) (hd : (D i)[q]? = some x)
    (k2 : Kept (fun _ => True) (wr.setCell ⟨mb, i, none⟩ (.int .i64 ((q + 1 : Nat) : Int))) w2) (hR : IR (mb + 2) w5 (.slice (some ⟨b, 0, none⟩) len cap) ((imp D i x ++ List.replicate (((D i).take q).count x) i) ++ [i]))
    (hg : w2.grownBy w5 (V x).ownBlock) (hat : (V x).ownBlock = some b ∨ b = w2.heap.size) :
    PC w3 (w5.setCell ⟨mb + 1, x, none⟩ (.slice (some ⟨b, 0, none⟩) len cap)) mb n D i (q + 1) (M.set i (q + 1)) (fun a => if a = x then .slice (some ⟨b, 0, none⟩) len cap else V a) := by
  have hs := h.sz
  have k1 : Kept (fun c => c ≠ mb) wr (wr.setCell ⟨mb, i, none⟩ (.int .i64 ((q + 1 : Nat) : Int))) := Kept.setCell _ _ _ _ (by simp)
  have hz1 : (wr.setCell ⟨mb, i, none⟩ (.int .i64 ((q + 1 : Nat) : Int))).heap.size = wr.heap.size := by simp
  have hz2 := k2.size
  have hz5 := hg.size
  have hvx := (h.ro x hx).lt
  have kx : ∀ c, (V x).ownBlock = some c → mb + 2 ≤ c ∧ c < wr.heap.size := hvx
  have k5 : Kept (fun c => (V x).ownBlock ≠ some c) w2 w5 := Kept.grown hg (fun k hk hc => hc hk)
  have k25 : Kept (fun c => (V x).ownBlock ≠ some c) (wr.setCell ⟨mb, i, none⟩ (.int .i64 ((q + 1 : Nat) : Int))) w5 := (k2.mono (fun _ _ _ => trivial)).trans k5
  have k6 : Kept (fun c => c ≠ mb + 1) w5 (w5.setCell ⟨mb + 1, x, none⟩ (.slice (some ⟨b, 0, none⟩) len cap)) := Kept.setCell _ _ _ _ (by simp)
  have hbb : mb + 2 ≤ b := (hR.lt b rfl).1
  have nx1 : (V x).ownBlock ≠ some (mb + 1) := fun e => by have := (kx _ e).1; omega
  have nx0 : (V x).ownBlock ≠ some mb := fun e => by have := (kx _ e).1; omega
  refine ⟨by simp [h.ml], ?_, fun k hk => ?_, fun a ha => ?_, fun a ha => ?_, fun a a' ha ha' hne c hc => ?_, ?_, ?_⟩
  · have h1 := h.mr.set h.ml i (q + 1)
    refine (h1.kept k25 (fun c hc => ?_)).kept k6 (fun c hc => ?_)
    · simp only [Value.ownBlock, Option.some.injEq] at hc; subst hc; exact nx0
    · simp only [Value.ownBlock, Option.some.injEq] at hc; omega
  · rw [g_set _ _ _ _ (by rw [← h.ml]; exact hi)]
    have h1 := h.ms k hk
    by_cases e : k = i
    · subst e; rw [if_pos rfl, if_neg (by omega), if_pos rfl]
    · rw [if_neg e, h1]
      by_cases e2 : k < i
      · rw [if_pos e2, if_pos e2]
      · rw [if_neg e2, if_neg e, if_neg e2, if_neg e]
  · obtain ⟨c1, f1⟩ := h.im a ha
    have c5 : w5.cell? ⟨mb + 1, a, none⟩ = some (V a) := (k25.cell (p := ⟨mb + 1, a, none⟩) (by show mb + 1 < _; omega) nx1).trans ((k1.cell (p := ⟨mb + 1, a, none⟩) (by show mb + 1 < _; omega) (by show mb + 1 ≠ mb; omega)).trans c1)
    have f5 : w5.frozen? ⟨mb + 1, a, none⟩ = false := (k25.frozen (p := ⟨mb + 1, a, none⟩) (by show mb + 1 < _; omega) nx1).trans ((k1.frozen (p := ⟨mb + 1, a, none⟩) (by show mb + 1 < _; omega) (by show mb + 1 ≠ mb; omega)).trans f1)
    refine ⟨?_, by rw [World.frozen?_setCell]; exact f5⟩
    by_cases e : a = x
    · subst e
      simp only [if_true]
      exact World.cell?_setCell_same _ _ _ c5
    · simp only [if_neg e]
      rw [World.cell?_setCell_other _ _ _ _ (fun e2 => e (congrArg Addr.off e2).symm)]
      exact c5
  · have ht : (D i).take (q + 1) = (D i).take q ++ [x] := by rw [List.take_add_one, hd]; rfl
    rw [ht, List.count_append]
    by_cases e : a = x
    · subst e
      simp only [if_true, List.count_singleton_self]
      rw [List.replicate_succ', ← List.append_assoc]
      exact hR.kept k6 (fun c hc => by simp only [Value.ownBlock, Option.some.injEq] at hc; omega)
    · have e0 : List.count a [x] = 0 := List.count_eq_zero.2 (by simp [e])
      simp only [if_neg e, e0, Nat.add_zero]
      have hra := h.ro a ha
      refine ((hra.kept k1 (fun c hc => ?_)).kept k25 (fun c hc => ?_)).kept k6 (fun c hc => ?_)
      · have := (hra.lt c hc).1; omega
      · exact h.di a x ha hx e c hc
      · have := (hra.lt c hc).1; omega
  · by_cases e : a = x
    · subst e
      simp only [if_true, Value.ownBlock, Option.some.injEq] at hc
      subst hc
      have e' : a' ≠ a := fun e => hne e.symm
      simp only [if_neg e']
      rcases hat with e2 | e2
      · exact h.di a a' ha ha' hne b e2
      · intro e3
        have := ((h.ro a' ha').lt b e3).2
        omega
    · simp only [if_neg e] at hc
      by_cases e' : a' = x
      · subst e'
        simp only [if_true, Value.ownBlock, ne_eq, Option.some.injEq]
        intro e3
        subst e3
        rcases hat with e2 | e2
        · exact h.di a a' ha ha' hne b hc e2
        · have := ((h.ro a ha).lt b hc).2
          omega
      · simp only [if_neg e']
        exact h.di a a' ha ha' hne c hc
  · refine Below.kept (Below.kept (Below.kept h.be k1 (fun c hc => by omega) hw) k25 (fun c hc e => ?_) hw) k6 (fun c hc => by omega) hw
    have := (kx c e).1; omega
  · exact Nat.le_trans (by omega : mb + 2 ≤ w5.heap.size) k6.size

end Go.Proofs.Ytmfngmkhdppnjaa
