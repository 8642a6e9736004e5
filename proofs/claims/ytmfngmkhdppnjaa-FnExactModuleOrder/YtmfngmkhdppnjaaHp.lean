import Derived.Test.YtmfngmkhdppnjaaTr
namespace Go.Proofs.Ytmfngmkhdppnjaa

/-! Heaps as lists. -/

def g (L : List Nat) (k : Nat) : Nat := L.getD k 0
def sw (L : List Nat) (i j : Nat) : List Nat := (L.set i (g L j)).set j (g L i)

theorem sw_len (L : List Nat) (i j : Nat) : (sw L i j).length = L.length := by simp [sw]

theorem g_lt {L : List Nat} {k : Nat} (h : k < L.length) : L[k]? = some (g L k) := by
  simp [g, h]

theorem g_set (L : List Nat) (i x k : Nat) (hi : i < L.length) : g (L.set i x) k = if k = i then x else g L k := by
  unfold g
  rw [List.getD_eq_getElem?_getD, List.getElem?_set]
  by_cases e : i = k
  · subst e; simp [hi]
  · rw [if_neg e, if_neg (fun h => e h.symm), List.getD_eq_getElem?_getD]

theorem g_sw {L : List Nat} {i j : Nat} (hi : i < L.length) (hj : j < L.length) (k : Nat) : g (sw L i j) k = if k = j then g L i else if k = i then g L j else g L k := by
  unfold sw
  rw [g_set _ _ _ _ (by simpa using hj), g_set _ _ _ _ hi]

theorem count_set' (L : List Nat) (i a b : Nat) (h : i < L.length) : (L.set i a).count b + (if g L i = b then 1 else 0) = L.count b + (if a = b then 1 else 0) := by
  rw [List.count_set h]
  have e : L[i] = g L i := by simp [g, h]
  rw [e]
  by_cases hb : g L i = b
  · have : 0 < L.count b := List.count_pos_iff.2 (by rw [← hb, ← e]; exact List.getElem_mem h)
    by_cases ha : a = b <;> simp [hb, ha] <;> omega
  · by_cases ha : a = b <;> simp [hb, ha]

theorem sw_perm {L : List Nat} {i j : Nat} (hi : i < L.length) (hj : j < L.length) : (sw L i j).Perm L := by
  rw [List.perm_iff_count]
  intro b
  have h1 := count_set' L i (g L j) b hi
  have h2 := count_set' (L.set i (g L j)) j (g L i) b (by simpa using hj)
  rw [g_set _ _ _ _ hi] at h2
  have e : (if j = i then g L j else g L j) = g L j := by split <;> rfl
  rw [e] at h2
  show ((L.set i (g L j)).set j (g L i)).count b = _
  omega

def Hp (L : List Nat) (n : Nat) : Prop := ∀ k, 0 < k → k < n → g L ((k - 1) / 2) ≤ g L k

def UpI (L : List Nat) (n j : Nat) : Prop :=
  (∀ k, 0 < k → k < n → k ≠ j → g L ((k - 1) / 2) ≤ g L k) ∧ (∀ k, 0 < k → k < n → (k - 1) / 2 = j → 0 < j → g L ((j - 1) / 2) ≤ g L k)

theorem UpI.zero {L : List Nat} {n : Nat} (h : UpI L n 0) : Hp L n := fun k h0 hk => h.1 k h0 hk (by omega)
theorem UpI.stop {L : List Nat} {n j : Nat} (h : UpI L n j) (hs : ¬ g L j < g L ((j - 1) / 2)) : Hp L n := fun k h0 hk => by
  by_cases e : k = j
  · subst e; omega
  · exact h.1 k h0 hk e
theorem UpI.step {L : List Nat} {n j : Nat} (h : UpI L n j) (hn : n = L.length) (hj : j < n) (h0 : 0 < j) (hs : g L j < g L ((j - 1) / 2)) : UpI (sw L ((j - 1) / 2) j) n ((j - 1) / 2) := by
  obtain ⟨i, hi⟩ : ∃ i, i = (j - 1) / 2 := ⟨_, rfl⟩
  rw [← hi] at hs ⊢
  have hij : i < j := by omega
  have G := g_sw (L := L) (i := i) (j := j) (by omega) (by omega)
  refine ⟨fun k k0 kn ki => ?_, fun k k0 kn kp i0 => ?_⟩
  · rw [G, G]
    by_cases e : k = j
    · subst e
      rw [← hi, if_neg (by omega), if_pos rfl, if_pos rfl]; omega
    · rw [if_neg e, if_neg ki]
      have a1 := h.1 k k0 kn e
      by_cases e1 : (k - 1) / 2 = j
      · rw [if_pos e1, hi]; exact h.2 k k0 kn e1 h0
      · rw [if_neg e1]
        by_cases e2 : (k - 1) / 2 = i
        · rw [if_pos e2]; rw [e2] at a1; omega
        · rw [if_neg e2]; exact a1
  · rw [G, G]
    have a1 := h.1 i i0 (by omega) (by omega)
    rw [if_neg (by omega), if_neg (by omega)]
    by_cases e : k = j
    · rw [if_pos e]; exact a1
    · rw [if_neg e, if_neg (by omega)]
      have a2 := h.1 k k0 kn e
      rw [kp] at a2; omega

def DnI (L : List Nat) (n i : Nat) : Prop :=
  (∀ k, 0 < k → k < n → (k - 1) / 2 ≠ i → g L ((k - 1) / 2) ≤ g L k) ∧ (∀ k, 0 < k → k < n → (k - 1) / 2 = i → 0 < i → g L ((i - 1) / 2) ≤ g L k)

theorem DnI.leaf {L : List Nat} {n i : Nat} (h : DnI L n i) (hs : n ≤ 2 * i + 1) : Hp L n := fun k h0 hk => h.1 k h0 hk (by omega)
theorem DnI.stop {L : List Nat} {n i j : Nat} (h : DnI L n i) (hm : ∀ k, 0 < k → k < n → (k - 1) / 2 = i → g L j ≤ g L k) (hs : ¬ g L j < g L i) : Hp L n := fun k h0 hk => by
  by_cases e : (k - 1) / 2 = i
  · rw [e]; have := hm k h0 hk e; omega
  · exact h.1 k h0 hk e
theorem DnI.step {L : List Nat} {n i j : Nat} (h : DnI L n i) (hn : n ≤ L.length) (hj : j < n) (h0 : 0 < j) (hp : (j - 1) / 2 = i) (hm : ∀ k, 0 < k → k < n → (k - 1) / 2 = i → g L j ≤ g L k) (hs : g L j < g L i) : DnI (sw L i j) n j := by
  have hij : i < j := by omega
  have G := g_sw (L := L) (i := i) (j := j) (by omega) (by omega)
  refine ⟨fun k k0 kn kp => ?_, fun k k0 kn kp _ => ?_⟩
  · rw [G, G, if_neg kp]
    by_cases e : (k - 1) / 2 = i
    · rw [if_pos e]
      by_cases e1 : k = j
      · rw [if_pos e1]; omega
      · rw [if_neg e1, if_neg (by omega)]; exact hm k k0 kn e
    · have e1 : k ≠ j := fun e1 => e (by rw [e1]; exact hp)
      rw [if_neg e, if_neg e1]
      by_cases e2 : k = i
      · rw [if_pos e2, e2]; exact h.2 j h0 hj hp (by omega)
      · rw [if_neg e2]; exact h.1 k k0 kn e
  · rw [G, G, hp, if_neg (by omega), if_pos rfl, if_neg (by omega), if_neg (by omega)]
    have := h.1 k k0 kn (by omega)
    rw [kp] at this; exact this

theorem Hp.min {L : List Nat} {n : Nat} (h : Hp L n) : ∀ m k, k ≤ m → k < n → g L 0 ≤ g L k
  | 0, k, hk, _ => by obtain rfl : k = 0 := by omega
                      exact Nat.le_refl _
  | m + 1, k, hk, hn => by
    rcases Nat.eq_zero_or_pos k with e | e
    · subst e; exact Nat.le_refl _
    · exact Nat.le_trans (Hp.min h m ((k - 1) / 2) (by omega) (by omega)) (h k e hn)

theorem Hp.first {L : List Nat} (h : Hp L L.length) : ∀ x ∈ L, g L 0 ≤ x := fun x hx => by
  obtain ⟨k, hk, rfl⟩ := List.getElem_of_mem hx
  have := h.min k k (Nat.le_refl _) hk
  rwa [show L[k] = g L k by simp [g, hk]]

theorem Hp.push {L : List Nat} (h : Hp L L.length) (x : Nat) : UpI (L ++ [x]) (L.length + 1) L.length := by
  have G : ∀ k, k < L.length → g (L ++ [x]) k = g L k := fun k hk => by simp [g, List.getElem?_append_left hk]
  refine ⟨fun k k0 kn ke => ?_, fun k k0 kn kp j0 => ?_⟩
  · rw [G _ (by omega), G _ (by omega)]; exact h k k0 (by omega)
  · omega

theorem Hp.pop {L : List Nat} {n : Nat} (h : Hp L L.length) (hn : L.length = n + 1) : DnI (sw L 0 n) n 0 := by
  have G := g_sw (L := L) (i := 0) (j := n) (by omega) (by omega)
  refine ⟨fun k k0 kn kp => ?_, fun k k0 kn kp i0 => by omega⟩
  rw [G, G, if_neg (by omega), if_neg (by omega), if_neg (by omega), if_neg (by omega)]
  exact h k k0 (by omega)

theorem take_last {L : List Nat} {n : Nat} (hn : L.length = n + 1) : L = L.take n ++ [g L n] := by
  have h1 : L[n]? = some (g L n) := g_lt (by omega)
  have h2 := List.take_add_one (l := L) (i := n)
  rw [h1, List.take_of_length_le (by omega)] at h2
  simpa using h2

theorem Hp.take {L : List Nat} {n : Nat} (h : Hp L n) (hn : L.length = n + 1) : Hp (L.take n) (L.take n).length := by
  have hl : (L.take n).length = n := by simp; omega
  have G : ∀ k, k < n → g (L.take n) k = g L k := fun k hk => by
    simp [g, hk]
  intro k k0 kn
  rw [hl] at kn
  rw [G _ (by omega), G _ kn]
  exact h k k0 kn

end Go.Proofs.Ytmfngmkhdppnjaa
