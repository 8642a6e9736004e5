import Derived.Test.YtbgocfcnkhfejaaDraw5
namespace Go.Proofs.Ytbgocfcnkhfejaa
open Go.RowKit Go.Joins

theorem drawn3 (G Q : Nat) (hG : G < 256) (hQ : Q < 1000) : wrap64 ((G : Int) + wrap64 (wrap64 (Q : Int) * 3)) = ((G + Q * 3 : Nat) : Int) := by
  rw [w64 (Q : Int) (by omega) (by omega), w64 ((Q : Int) * 3) (by omega) (by omega), w64 _ (by omega) (by omega)]
  omega
theorem drawn4 (V G : Nat) (hV : V < 5000000) (hG : G < 256) : wrap64 (wrap64 ((V : Int) * 251) + (G : Int)) = ((V * 251 + G : Nat) : Int) := by
  rw [w64 ((V : Int) * 251) (by omega) (by omega), w64 _ (by omega) (by omega)]
  omega

set_option maxHeartbeats 400000 in
set_option maxRecDepth 100000 in
theorem lwAt_any (v : Value) (k i n : Nat) (w : World) (hB : Byt w v k) (hk : k ≤ 2000000) (hi : i < 1000) (hn : 200 < n) (hn' : n ≤ 100000) :
    Calls Try.prog 28 #[v, .int .i64 i, .int .i64 n] w fun e w' => ∃ r : Nat, r < n ∧ e = .returned (.int .i64 r) ∧ ∃ q, w' = w.drewN q := by
  obtain ⟨a, c, rfl, hc, -, hb⟩ := hB
  rcases Nat.eq_zero_or_pos k with h0 | hp
  · have hkb : ((k : Int) == 0) = true := by simp [h0]
    clear hb h0
    go_enter Try.func28, Try.ntmps28
    go_wp2_with fail
    go_ret
    exact ⟨i * 7 % n, Nat.mod_lt _ (by omega), by simp, 0, rfl⟩
  · have hkb : ((k : Int) == 0) = false := by simp; omega
    obtain ⟨b, off, rfl, g, hg⟩ := hb hp
    have g1 := (hg (i % k) (Nat.mod_lt _ hp)).2
    have l1 : i % k < k := Nat.mod_lt _ hp
    have g3 := (hg (i % k) (Nat.mod_lt _ hp)).1
    obtain ⟨J, hJ, g2, l2, g4⟩ : ∃ J : Nat, ((i : Int) + 1) % (k : Int) = (J : Int) ∧ w.cell? ⟨b, off + J, none⟩ = some (.int .u8 (g J)) ∧ J < k ∧ g J < 256 := ⟨(i + 1) % k, rfl, (hg _ (Nat.mod_lt _ hp)).2, Nat.mod_lt _ hp, (hg _ (Nat.mod_lt _ hp)).1⟩
    obtain ⟨Q, HQ, Q1⟩ : ∃ Q : Nat, Hid ((i : Int) / (k : Int) = (Q : Int)) ∧ Q < 1000 := ⟨i / k, rfl, Nat.lt_of_le_of_lt (Nat.div_le_self _ _) hi⟩
    clear hb hg
    go_enter Try.func28, Try.ntmps28
    go_wp2_with fail
    go_quiet (fail)
    rw [HQ.out]
    go_wp2_with fail
    go_ret
    rw [drawn3 _ _ g3 Q1, drawn4 _ _ (by omega) g4]
    obtain ⟨r, hr1, hr2⟩ := tmod_ex (((g (i % k) + Q * 3) * 251 + g J : Nat) : Int) n (by omega) (by omega)
    exact ⟨r, hr1, by rw [hr2]; rfl, _, rfl⟩

theorem Try.info5 : (Try.prog.info? 5).map (fun i => (i.zero, i.size, i.bytes)) = some (some (.int .u8 0), 1, 1) := by kernel_rfl

def U8s (n : Nat) (f : Nat → Nat) : List Value := (List.range n).map fun i => Value.int .u8 (f i)
theorem U8s_length (n : Nat) (f : Nat → Nat) : (U8s n f).length = n := by simp [U8s]
theorem U8s_get (n : Nat) (f : Nat → Nat) (i : Nat) (h : i < n) : (U8s n f)[i]? = some (.int .u8 (f i)) := by simp [U8s, h]
theorem U8s_app (n m : Nat) (f g : Nat → Nat) : U8s n f ++ U8s m g = U8s (n + m) (fun i => if i < n then f i else g (i - n)) := by
  apply List.ext_getElem?
  intro i
  by_cases h : i < n
  · rw [List.getElem?_append_left (by rw [U8s_length]; exact h), U8s_get _ _ _ h, U8s_get _ _ _ (by omega), if_pos h]
  · rw [List.getElem?_append_right (by rw [U8s_length]; omega), U8s_length]
    by_cases h2 : i < n + m
    · rw [U8s_get _ _ _ (by omega), U8s_get _ _ _ h2, if_neg h]
    · rw [List.getElem?_eq_none (by rw [U8s_length]; omega), List.getElem?_eq_none (by rw [U8s_length]; omega)]

theorem bytes_of_row {B w v n f} (h : w.ownsRow B 5 1 v n (U8s n f)) (hf : ∀ i, i < n → f i < 256) : Byt w v n := by
  obtain ⟨h1, h2⟩ := h
  rcases h2 with ⟨rfl, rfl⟩ | ⟨g, cap, cur, rfl, hb, hg, hn, hc, hs, ht⟩
  · exact ⟨none, 0, rfl, Nat.le_refl _, fun _ => rfl, fun h => by omega⟩
  · refine ⟨_, cap, rfl, hn, (fun e => by cases e), fun _ => ⟨g, 0, rfl, f, fun i hi => ⟨hf i hi, ?_⟩⟩⟩
    rw [cell_of_block hg, Nat.zero_add]
    have := congrArg (fun l => l[i]?) ht
    simp only [U8s_get _ _ _ hi] at this
    rw [List.getElem?_take, if_pos (by omega)] at this
    simpa using this

theorem two_bytes (W : World) (r0 r1 : Nat) : (W.alloc (.cells #[.int .u8 r0, .int .u8 r1] 5)).ownsRow W.heap.size 5 1 (.slice (some ⟨W.heap.size, 0, none⟩) 2 2) 2 (U8s 2 (fun i => if i = 0 then r0 else r1)) :=
  ⟨by simp [U8s], .inr ⟨W.heap.size, 2, _, rfl, Nat.le_refl _, heap_alloc_new _ _, Nat.le_refl _, by unfold maxLen; omega, by simp, by simp [U8s, List.range_succ]⟩⟩

theorem wpList_appendB {ops : Array Oper} {rest : List Oper} {o : Oper} {a : Act} {W : World} {Q : Exit → Act → World → Prop} (s x : Operand) (r0 r1 : Nat) (sv : Value) (m : Nat)
    (h0 : r0 < 256) (h1 : r1 < 256) (hL : Byt (W.alloc (.cells #[.int .u8 r0, .int .u8 r1] 5)) sv m) (hb : m ≤ 2000000)
    (hgd : o.guard = none) (ho : o.op = .call { callee := .builtin .append, args := #[s, x], argTypes := #[22, 22] }) (hs : a.eval s = .slice (some ⟨W.heap.size, 0, none⟩) 2 2) (hx : a.eval x = sv)
    (h : ∀ v' w', Byt w' v' (2 + m) → Below W.heap.size W w' → wpList Try.prog ops Q rest (a.put o.dst v') w') : wpList Try.prog ops Q (o :: rest) a (W.alloc (.cells #[.int .u8 r0, .int .u8 r1] 5)) := by
  obtain ⟨i0, hi, hz0, hz1, hz2⟩ := info_parts Try.info5
  have hown := two_bytes W r0 r1
  have hf2 : ∀ i, i < 2 → (fun i => if i = 0 then r0 else r1) i < 256 := fun i _ => by dsimp only; split <;> assumption
  obtain ⟨sa, sc, rfl, h2, h3, h4⟩ := hL
  cases sa with
  | none =>
    have hm : m = 0 := by
      rcases Nat.eq_zero_or_pos m with h0 | hp
      · exact h0
      · obtain ⟨b, off, e, _⟩ := h4 hp; cases e
    have hc : sc = 0 := h3 rfl
    subst hm hc
    refine wpList_append_own_none hgd s x 22 ho W.heap.size 5 i0 1 Try.underlying22 hi _ 2 _ hs hown hx ?_
    exact h _ _ (bytes_of_row hown hf2) (below_alloc1 _ _)
  | some ad =>
    have hg : ∃ g : Nat → Nat, ∀ j, j < m → g j < 256 ∧ (W.alloc (.cells #[.int .u8 r0, .int .u8 r1] 5)).cell? (ad.add j) = some (.int .u8 (g j)) := by
      rcases Nat.eq_zero_or_pos m with h0 | hp
      · exact ⟨fun _ => 0, fun j hj => by omega⟩
      · obtain ⟨b, off, e, g, h5⟩ := h4 hp
        refine ⟨g, fun j hj => ⟨(h5 j hj).1, ?_⟩⟩
        rw [Option.some.inj e, addAt]
        exact (h5 j hj).2
    obtain ⟨g, hg⟩ := hg
    refine wpList_append_own _ hgd s x 22 ho W.heap.size 5 i0 (.int .u8 0) 1 1 Try.underlying22 hi hz0 hz1 hz2 rfl (by decide) _ 2 _ hs hown ad m sc (U8s m g) hx (by rw [U8s_length]; omega) ?_ ?_ (by unfold maxLen; omega) (by omega) (by simp) ?_
    · intro j u hj
      have hjm : j < m := by have := (List.getElem?_eq_some_iff.1 hj).1; rwa [U8s_length] at this
      rw [U8s_get _ _ _ hjm] at hj
      rw [← hj]
      exact (hg j hjm).2
    · intro u hu
      simp only [U8s, List.mem_map] at hu
      obtain ⟨i, _, rfl⟩ := hu
      rfl
    · intro v' w' h5 h6 _
      rw [U8s_app] at h5
      refine h v' w' (bytes_of_row h5 (fun i hi => ?_)) (((below_alloc1 W _)).grown h6 (by simp) (fun k hk => (hown.lt k hk).1))
      split
      · split <;> assumption
      · exact (hg _ (by omega)).1

end Go.Proofs.Ytbgocfcnkhfejaa
