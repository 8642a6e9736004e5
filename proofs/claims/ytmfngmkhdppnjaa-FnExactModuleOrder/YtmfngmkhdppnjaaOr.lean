import Derived.Test.YtmfngmkhdppnjaaHp
namespace Go.Proofs.Ytmfngmkhdppnjaa

/-! The order by imports: D i are the numbers that i imports. -/

def rdy (D : Nat → List Nat) (out : List Nat) (x : Nat) : Bool := !out.contains x && (D x).all fun j => out.contains j
theorem rdy_iff {D : Nat → List Nat} {out : List Nat} {x : Nat} : rdy D out x = true ↔ x ∉ out ∧ ∀ j ∈ D x, j ∈ out := by simp [rdy]

def nxt (D : Nat → List Nat) (n : Nat) (out : List Nat) : Option Nat := (List.range n).find? (rdy D out)
def run (D : Nat → List Nat) (n : Nat) : Nat → List Nat → List Nat
  | 0, out => out
  | f + 1, out => match nxt D n out with
    | none => out
    | some i => run D n f (out ++ [i])

def miss (D : Nat → List Nat) (out : List Nat) (i : Nat) : Nat := (D i).countP fun j => !out.contains j
def imp (D : Nat → List Nat) (n a : Nat) : List Nat := (List.range n).flatMap fun i => List.replicate ((D i).count a) i

theorem imp_succ (D : Nat → List Nat) (n a : Nat) : imp D (n + 1) a = imp D n a ++ List.replicate ((D n).count a) n := by
  simp [imp, List.range_succ]

theorem mem_imp {D : Nat → List Nat} {n a x : Nat} : x ∈ imp D n a ↔ x < n ∧ a ∈ D x := by
  simp only [imp, List.mem_flatMap, List.mem_range, List.mem_replicate]
  constructor
  · rintro ⟨i, hi, h1, rfl⟩
    exact ⟨hi, List.count_pos_iff.1 (by omega)⟩
  · rintro ⟨h1, h2⟩
    exact ⟨x, h1, by have := List.count_pos_iff.2 h2; omega, rfl⟩

theorem count_imp (D : Nat → List Nat) (a i : Nat) : ∀ n, i < n → (imp D n a).count i = (D i).count a
  | 0, h => by omega
  | n + 1, h => by
    rw [imp_succ, List.count_append, List.count_replicate]
    by_cases e : i = n
    · subst e
      have : (imp D i a).count i = 0 := List.count_eq_zero.2 (fun h => by have := (mem_imp.1 h).1; omega)
      simp [this]
    · have := count_imp D a i n (by omega)
      have hne : ¬ n = i := fun x => e x.symm
      simp [this, hne]

theorem miss_app {D : Nat → List Nat} {out : List Nat} {a : Nat} (ha : a ∉ out) (i : Nat) : miss D (out ++ [a]) i + (D i).count a = miss D out i := by
  unfold miss
  induction D i with
  | nil => simp
  | cons j r ih =>
    simp only [List.countP_cons, List.count_cons]
    by_cases e : j = a
    · subst e
      simp only [List.contains_eq_mem, List.mem_append, List.mem_singleton, ha, false_or, beq_self_eq_true, if_true, decide_true, Bool.not_true, decide_false, Bool.not_false]
      simp only [List.contains_eq_mem, List.mem_append, List.mem_singleton] at ih
      simp at ih ⊢
      omega
    · have h2 : (j == a) = false := by simpa using e
      have h3 : (out ++ [a]).contains j = out.contains j := by simp [e]
      rw [h2, h3]
      simp only [Bool.false_eq_true, if_false, Nat.add_zero]
      omega

theorem count_le_miss {D : Nat → List Nat} {out : List Nat} {a : Nat} (ha : a ∉ out) (i : Nat) : (D i).count a ≤ miss D out i := by have := miss_app (D := D) ha i; omega
theorem miss_zero {D : Nat → List Nat} {out : List Nat} {i : Nat} : miss D out i = 0 ↔ ∀ j ∈ D i, j ∈ out := by simp [miss, List.countP_eq_zero]

theorem nodup_len : ∀ (n : Nat) (L : List Nat), L.Nodup → (∀ x ∈ L, x < n) → L.length ≤ n
  | 0, L, _, h => by
    cases L with
    | nil => simp
    | cons x r => have := h x (by simp); omega
  | n + 1, L, hd, h => by
    have h1 := nodup_len n (L.erase n) (hd.erase n) (fun x hx => by
      have h2 := (List.Nodup.mem_erase_iff hd).1 hx
      have := h x h2.2
      have := h2.1
      omega)
    by_cases hm : n ∈ L
    · rw [List.length_erase_of_mem hm] at h1; omega
    · rw [List.erase_of_not_mem hm] at h1; omega

/-- Between two rounds: what is missing, who is ready. -/
structure Ks (D : Nat → List Nat) (n : Nat) (out M L : List Nat) : Prop where
  miss : ∀ i, i < n → g M i = miss D out i
  mem : ∀ x, x ∈ L ↔ x < n ∧ rdy D out x = true
  nd : L.Nodup
  closed : ∀ x ∈ out, ∀ j ∈ D x, j ∈ out
  ond : out.Nodup
  olt : ∀ x ∈ out, x < n

/-- Within a round: a is taken, q of those that import it have been told. -/
structure Kq (D : Nat → List Nat) (n : Nat) (out : List Nat) (a q : Nat) (M L : List Nat) : Prop where
  miss : ∀ i, i < n → g M i + ((imp D n a).take q).count i = miss D out i
  mem : ∀ x, x ∈ L ↔ (x < n ∧ rdy D out x = true ∧ x ≠ a) ∨ (x ∈ (imp D n a).take q ∧ g M x = 0)
  nd : L.Nodup

theorem Ks.len {D : Nat → List Nat} {n : Nat} {out M L : List Nat} (h : Ks D n out M L) : out.length ≤ n := nodup_len n out h.ond h.olt

theorem Ks.none {D : Nat → List Nat} {n : Nat} {out M : List Nat} (h : Ks D n out M []) : nxt D n out = none := by
  unfold nxt
  rw [List.find?_eq_none]
  intro x hx hr
  have := (h.mem x).2 ⟨List.mem_range.1 hx, hr⟩
  simp at this

theorem Ks.some {D : Nat → List Nat} {n : Nat} {out M L : List Nat} (h : Ks D n out M L) (hp : Hp L L.length) (h0 : 0 < L.length) : nxt D n out = some (g L 0) ∧ g L 0 ∈ L := by
  have hm : g L 0 ∈ L := by
    have := g_lt (L := L) (k := 0) h0
    exact List.mem_of_getElem? this
  have h1 := (h.mem _).1 hm
  refine ⟨?_, hm⟩
  unfold nxt
  rw [List.find?_range_eq_some]
  refine ⟨h1.2, List.mem_range.2 h1.1, fun j hj => ?_⟩
  by_cases hr : rdy D out j = true
  · have := hp.first j ((h.mem j).2 ⟨by omega, hr⟩)
    omega
  · simpa using hr

theorem Ks.pop {D : Nat → List Nat} {n : Nat} {out M L L' : List Nat} {a : Nat} (h : Ks D n out M L) (hp : (L' ++ [a]).Perm L) : Kq D n out a 0 M L' := by
  have hnd : (L' ++ [a]).Nodup := hp.nodup_iff.2 h.nd
  rw [List.nodup_append] at hnd
  refine ⟨fun i hi => by simpa using h.miss i hi, fun x => ?_, hnd.1⟩
  have hx : x ∈ L' ++ [a] ↔ x ∈ L := hp.mem_iff
  rw [h.mem] at hx
  simp only [List.mem_append, List.mem_singleton] at hx
  simp only [List.take_zero, List.not_mem_nil, false_and, or_false]
  constructor
  · intro hm
    have h1 := hx.1 (.inl hm)
    exact ⟨h1.1, h1.2, hnd.2.2 x hm a (by simp)⟩
  · rintro ⟨h1, h2, h3⟩
    rcases hx.2 ⟨h1, h2⟩ with h4 | h4
    · exact h4
    · exact absurd h4 h3

theorem take_add (P : List Nat) (q i : Nat) (h : P[q]? = some i) : P.take (q + 1) = P.take q ++ [i] := by
  rw [List.take_add_one, h]; rfl

theorem Kq.pos {D : Nat → List Nat} {n : Nat} {out : List Nat} {a q : Nat} {M L : List Nat} {i : Nat} (h : Kq D n out a q M L) (ha : a ∉ out) (hi : (imp D n a)[q]? = some i) : i < n ∧ 0 < g M i ∧ i ∉ L := by
  have hm := mem_imp.1 (List.mem_of_getElem? hi)
  have h1 := h.miss i hm.1
  have h2 := count_le_miss (D := D) ha i
  have h3 := count_imp D a i n hm.1
  have h4 : ((imp D n a).take (q + 1)).count i ≤ (imp D n a).count i := (List.take_sublist _ _).count_le _
  rw [take_add _ _ _ hi, List.count_append] at h4
  simp only [List.count_singleton_self] at h4
  have hpos : 0 < g M i := by omega
  refine ⟨hm.1, hpos, fun hc => ?_⟩
  rcases (h.mem i).1 hc with ⟨_, hr, _⟩ | ⟨_, h5⟩
  · have := miss_zero.2 (rdy_iff.1 hr).2
    omega
  · omega

theorem Kq.step {D : Nat → List Nat} {n : Nat} {out : List Nat} {a q : Nat} {M L L' : List Nat} {i : Nat} (h : Kq D n out a q M L) (ha : a ∉ out) (hi : (imp D n a)[q]? = some i) (hM : M.length = n)
    (hL : if g M i - 1 = 0 then L'.Perm (L ++ [i]) else L' = L) : Kq D n out a (q + 1) (M.set i (g M i - 1)) L' := by
  obtain ⟨hin, hpos, hnm⟩ := h.pos ha hi
  have G := fun k => g_set M i (g M i - 1) k (by omega)
  have hno : ¬ (i < n ∧ rdy D out i = true ∧ i ≠ a) := fun hc => hnm ((h.mem i).2 (.inl hc))
  refine ⟨fun k hk => ?_, fun x => ?_, ?_⟩
  · rw [G, take_add _ _ _ hi, List.count_append]
    have h1 := h.miss k hk
    by_cases e : k = i
    · subst e; rw [if_pos rfl]; simp only [List.count_singleton_self]; omega
    · rw [if_neg e]
      have : List.count k [i] = 0 := List.count_eq_zero.2 (by simp [e])
      omega
  · rw [take_add _ _ _ hi, G, List.mem_append, List.mem_singleton]
    by_cases e : x = i
    · subst e
      rw [if_pos rfl]
      by_cases hz : g M x - 1 = 0
      · rw [if_pos hz] at hL
        rw [hL.mem_iff]
        simp [hz]
      · rw [if_neg hz] at hL
        subst hL
        simp [hnm, hz, hno]
    · rw [if_neg e]
      have h1 := h.mem x
      by_cases hz : g M i - 1 = 0
      · rw [if_pos hz] at hL
        rw [hL.mem_iff, List.mem_append, h1]
        simp [e]
      · rw [if_neg hz] at hL
        subst hL
        rw [h1]
        simp [e]
  · by_cases hz : g M i - 1 = 0
    · rw [if_pos hz] at hL
      rw [hL.nodup_iff, List.nodup_append]
      refine ⟨h.nd, by simp, fun x hx y hy exy => ?_⟩
      simp only [List.mem_singleton] at hy
      subst hy exy
      exact hnm hx
    · rw [if_neg hz] at hL
      subst hL
      exact h.nd

theorem Kq.done {D : Nat → List Nat} {n : Nat} {out M0 L0 : List Nat} {a q : Nat} {M L : List Nat} (h : Kq D n out a q M L) (h0 : Ks D n out M0 L0) (ha : a ∈ L0) (hq : (imp D n a).length ≤ q) : Ks D n (out ++ [a]) M L := by
  obtain ⟨han, har⟩ := (h0.mem a).1 ha
  obtain ⟨hao, had⟩ := rdy_iff.1 har
  have ht : (imp D n a).take q = imp D n a := List.take_of_length_le hq
  have hms : ∀ i, i < n → g M i = Ytmfngmkhdppnjaa.miss D (out ++ [a]) i := fun i hi => by
    have h1 := h.miss i hi
    rw [ht, count_imp D a i n hi] at h1
    have := miss_app (D := D) hao i
    omega
  refine ⟨hms, fun x => ?_, h.nd, ?_, ?_, ?_⟩
  · rw [h.mem, ht, mem_imp, rdy_iff, rdy_iff]
    constructor
    · rintro (⟨h1, ⟨h2, h3⟩, h4⟩ | ⟨⟨h1, h2⟩, h3⟩)
      · exact ⟨h1, by simp [h2, h4], fun j hj => by simp [h3 j hj]⟩
      · rw [hms x h1] at h3
        refine ⟨h1, fun hc => ?_, miss_zero.1 h3⟩
        rcases List.mem_append.1 hc with hc | hc
        · exact hao (h0.closed x hc a h2)
        · simp only [List.mem_singleton] at hc
          subst hc
          exact hao (had x h2)
    · rintro ⟨h1, h2, h3⟩
      simp only [List.mem_append, List.mem_singleton, not_or] at h2
      by_cases hx : a ∈ D x
      · exact .inr ⟨⟨h1, hx⟩, by rw [hms x h1]; exact miss_zero.2 h3⟩
      · refine .inl ⟨h1, ⟨h2.1, fun j hj => ?_⟩, h2.2⟩
        rcases List.mem_append.1 (h3 j hj) with hc | hc
        · exact hc
        · simp only [List.mem_singleton] at hc
          subst hc
          exact absurd hj hx
  · intro x hx j hj
    rcases List.mem_append.1 hx with hc | hc
    · exact List.mem_append_left _ (h0.closed x hc j hj)
    · simp only [List.mem_singleton] at hc
      subst hc
      exact List.mem_append_left _ (had j hj)
  · rw [List.nodup_append]
    refine ⟨h0.ond, by simp, fun x hx y hy exy => ?_⟩
    simp only [List.mem_singleton] at hy
    subst hy exy
    exact hao hx
  · intro x hx
    rcases List.mem_append.1 hx with hc | hc
    · exact h0.olt x hc
    · simp only [List.mem_singleton] at hc
      subst hc
      exact han

end Go.Proofs.Ytmfngmkhdppnjaa
