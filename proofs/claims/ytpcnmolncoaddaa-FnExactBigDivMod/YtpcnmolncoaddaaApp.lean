import Derived.Test.YtpcnmolncoaddaaMarks
import Derived.Test.YtpcnmolncoaddaaMagF
import Derived.Laws.AppendOwnNone
namespace Go.Proofs.Ytpcnmolncoaddaa
open Go.RowKit Go.Joins

def U32s (n : Nat) (f : Nat → Nat) : List Value := (List.range n).map fun i => Value.int .u32 (f i)
theorem U32s_length (n : Nat) (f : Nat → Nat) : (U32s n f).length = n := by simp [U32s]
theorem U32s_get (n : Nat) (f : Nat → Nat) (i : Nat) (h : i < n) : (U32s n f)[i]? = some (.int .u32 (f i)) := by simp [U32s, h]
theorem U32s_app (n m : Nat) (f g : Nat → Nat) : U32s n f ++ U32s m g = U32s (n + m) (fun i => if i < n then f i else g (i - n)) := by
  apply List.ext_getElem?
  intro i
  by_cases h : i < n
  · rw [List.getElem?_append_left (by rw [U32s_length]; exact h), U32s_get _ _ _ h, U32s_get _ _ _ (by omega), if_pos h]
  · rw [List.getElem?_append_right (by rw [U32s_length]; omega), U32s_length]
    by_cases h2 : i < n + m
    · rw [U32s_get _ _ _ (by omega), U32s_get _ _ _ h2, if_neg h]
    · rw [List.getElem?_eq_none (by rw [U32s_length]; omega), List.getElem?_eq_none (by rw [U32s_length]; omega)]
theorem U32s_congr {n : Nat} {f g : Nat → Nat} (h : ∀ i, i < n → f i = g i) : U32s n f = U32s n g := by
  unfold U32s
  apply List.map_congr_left
  intro i hi
  rw [h i (by simpa using hi)]

theorem addAt (b o j : Nat) : (⟨b, o, none⟩ : Addr).add j = ⟨b, o + j, none⟩ := by unfold Addr.add; split <;> simp_all

/-- A slice that the call itself has made, with whatever room. -/
def Row (B : Nat) (w : World) (v : Value) (n : Nat) (f : Nat → Nat) : Prop := w.ownsRow B 60 1 v n (U32s n f)

theorem Row.own {B w v n f} (h : Row B w v n f) (hf : ∀ i, i < n → f i < 4294967296) : Own B w v n f := by
  obtain ⟨h1, h2⟩ := h
  rcases h2 with ⟨rfl, rfl⟩ | ⟨g, cap, cur, rfl, hb, hg, hn, hc, hs, ht⟩
  · exact ⟨none, 0, rfl, Nat.le_refl _, ⟨by unfold maxLen; omega, fun _ => rfl⟩, fun i hi => by omega, fun h => by omega⟩
  · refine ⟨_, cap, rfl, hn, ⟨hc, fun e => by cases e⟩, hf, fun _ => ⟨g, 0, rfl, hb, fun i hi => ?_, fun i _ => unfrozen_of_block hg _⟩⟩
    rw [cell_of_block hg, Nat.zero_add]
    have := congrArg (fun l => l[i]?) ht
    simp only [U32s_get _ _ _ hi] at this
    rw [List.getElem?_take, if_pos (by omega)] at this
    simpa using this

theorem wpList_appendU {ops : Array Oper} {rest : List Oper} {o : Oper} {a : Act} {w : World} {Q : Exit → Act → World → Prop} (s x : Operand) (B : Nat) (v sv : Value) (n m : Nat) (f g : Nat → Nat)
    (hown : Row B w v n f) (hL : Lim w sv m g) (hnil : NilOk sv) (hb : n + m ≤ 1073741824) (hbase : B ≤ w.heap.size)
    (hgd : o.guard = none) (ho : o.op = .call { callee := .builtin .append, args := #[s, x], argTypes := #[23, 23] }) (hs : a.eval s = v) (hx : a.eval x = sv)
    (h : ∀ v' w', Row B w' v' (n + m) (fun i => if i < n then f i else g (i - n)) → Below B w w' → wpList Try.prog ops Q rest (a.put o.dst v') w') : wpList Try.prog ops Q (o :: rest) a w := by
  obtain ⟨i0, hi, hz0, hz1, hz2⟩ := info_parts Try.info60
  obtain ⟨sa, sc, rfl, h1, h2, h3, h4⟩ := hL
  cases sa with
  | none =>
    have hm : m = 0 := by
      rcases Nat.eq_zero_or_pos m with h0 | hp
      · exact h0
      · obtain ⟨b, off, e, _⟩ := h4 hp; cases e
    have hc : sc = 0 := hnil _ _ rfl
    subst hm hc
    refine wpList_append_own_none hgd s x 23 ho B 60 i0 1 Try.underlying23 hi v n _ hs hown hx ?_
    refine h v w ?_ (Below.refl _ _)
    show w.ownsRow B 60 1 v n (U32s n _)
    rw [U32s_congr (g := f) (fun i hi => by simp [hi])]
    exact hown
  | some ad =>
    refine wpList_append_own w hgd s x 23 ho B 60 i0 (.int .u32 0) 1 4 Try.underlying23 hi hz0 hz1 hz2 rfl (by decide) v n _ hs hown ad m sc (U32s m g) hx (by rw [U32s_length]; omega) ?_ ?_ (by unfold maxLen; omega) (by omega) hbase ?_
    · intro j u hj
      have hjm : j < m := by have := (List.getElem?_eq_some_iff.1 hj).1; rwa [U32s_length] at this
      obtain ⟨b, off, e, h5⟩ := h4 (by omega)
      rw [U32s_get _ _ _ hjm] at hj
      rw [← hj, Option.some.inj e, addAt]
      exact h5 j hjm
    · intro u hu
      simp only [U32s, List.mem_map] at hu
      obtain ⟨i, _, rfl⟩ := hu
      rfl
    · intro v' w' h5 h6 _
      rw [U32s_app] at h5
      exact h v' w' h5 ((Below.refl _ _).grown h6 hbase (fun k hk => (hown.lt k hk).1))


theorem Row.empty (w : World) (f : Nat → Nat) : Row w.heap.size (w.alloc (.cells #[] 60)) (.slice (some ⟨w.heap.size, 0, none⟩) 0 0) 0 f :=
  ⟨by simp [U32s], .inr ⟨w.heap.size, 0, #[], rfl, Nat.le_refl _, heap_alloc_new _ _, Nat.le_refl _, by unfold maxLen; omega, by simp, by simp [U32s]⟩⟩
theorem Row.eq {B w v n n' f f'} (h : Row B w v n f) (hn : n = n') (hf : ∀ i, i < n' → f i = f' i) : Row B w v n' f' := by
  subst hn
  show w.ownsRow B 60 1 v n (U32s n f')
  rw [← U32s_congr hf]; exact h
theorem Lim.take {w a n c f} (h : Lim w (.slice a n c) n f) (k : Nat) (hk : k ≤ n) : Lim w (.slice a k c) k f := by
  obtain ⟨a', c', e, h1, h2, h3, h4⟩ := h
  simp only [Value.slice.injEq] at e
  obtain ⟨rfl, -, rfl⟩ := e
  refine ⟨a, c, rfl, by omega, h2, fun i hi => h3 i (by omega), fun hp => ?_⟩
  obtain ⟨b, off, e, h5⟩ := h4 (by omega)
  exact ⟨b, off, e, fun i hi => h5 i (by omega)⟩
theorem nilOk_some (b : Addr) (n c : Nat) : NilOk (.slice (some b) n c) := fun _ _ e => by cases e

set_option maxHeartbeats 400000 in
set_option maxRecDepth 100000 in
theorem trim_some (b off n c : Nat) (f : Nat → Nat) (w : World) (hL : Lim w (.slice (some ⟨b, off, none⟩) n c) n f) (hn : n ≤ 2097152) (hp : 0 < n) (hcn : n ≤ c)
    (hc : ∀ i, i < n → w.cell? ⟨b, off + i, none⟩ = some (.int .u32 (f i))) :
    Calls Try.prog 77 #[.slice (some ⟨b, off, none⟩) n c] w fun e w' => ∃ v', e = .returned v' ∧ Row w.heap.size w' v' (trimN f n) f ∧ Below w.heap.size w w' := by
  go_enter Try.func77, Try.ntmps77
  go_wp2
  go_loop [3] (fun i => ∃ k : Nat, k ≤ n ∧ i = .int .i64 k ∧ trimN f k = trimN f n) (fun i => (intOf i).toNat)
  case atStart => exact ⟨n, Nat.le_refl _, rfl, rfl⟩
  case round =>
    obtain ⟨k, hk, rfl, he⟩ := hrel
    have He : Hid (trimN f k = trimN f n) := he
    clear he
    rcases Nat.eq_zero_or_pos k with hz | hp
    · subst hz
      go_wp2
      go_ret
      exact ⟨_, rfl, by rw [← He.out]; exact Row.empty w f, below_alloc1 _ _⟩
    · obtain ⟨j, rfl⟩ : ∃ j, k = j + 1 := ⟨k - 1, by omega⟩
      have g1 := hc j (by omega)
      by_cases h0 : f j = 0
      · have h0' : (((f j : Nat) : Int) == 0) = true := by simp [h0]
        have HH : Hid (trimN f j = trimN f n) := by rw [← He.out]; simp [trimN, h0, Hid]
        clear h0 He hc
        go_wp2
        go_round
        case rel => exact ⟨j, by omega, by go_num, HH.out⟩
        case measure => simp [intOf]
      · have h0' : (((f j : Nat) : Int) == 0) = false := by simp [h0]
        have HH : Hid (trimN f n = j + 1) := by rw [← He.out]; simp [trimN, h0, Hid]
        clear He h0 hc
        have hl := (hL.take (j + 1) hk).below (below_alloc1 w (.cells #[] 60))
        go_wp2_with (at_builtin; (with_reducible refine wpList_appendU (.tmp 18) (.tmp 21) w.heap.size _ _ 0 (j + 1) f f (Row.empty w f) hl (nilOk_some _ _ _) ?_ ?_ ?_ ?_ ?_ ?_ ?_); omega; (simp); rfl; rfl; rfl; rfl; intro v' w' hr hb)
        go_ret
        exact ⟨v', rfl, by rw [HH.out]; exact hr.eq (by omega) (fun i _ => by simp), (below_alloc1 _ _).trans hb⟩


set_option maxHeartbeats 400000 in
set_option maxRecDepth 100000 in
theorem trim_none (a : Option Addr) (c : Nat) (f : Nat → Nat) (w : World) (hnil : NilOk (.slice a 0 c)) :
    Calls Try.prog 77 #[.slice a 0 c] w fun e w' => ∃ v', e = .returned v' ∧ Row w.heap.size w' v' 0 f ∧ Below w.heap.size w w' := by
  cases a with
  | none =>
    have hc : c = 0 := hnil _ _ rfl
    subst hc
    clear hnil
    go_enter Try.func77, Try.ntmps77
    go_wp2
    go_loop [3] (fun i => i = .int .i64 0) (fun _ => 0)
    case atStart => rfl
    case round =>
      obtain rfl := hrel
      go_wp2
      go_ret
      exact ⟨_, rfl, Row.empty w f, below_alloc1 _ _⟩
  | some x =>
    clear hnil
    go_enter Try.func77, Try.ntmps77
    go_wp2
    go_loop [3] (fun i => i = .int .i64 0) (fun _ => 0)
    case atStart => rfl
    case round =>
      obtain rfl := hrel
      go_wp2
      go_ret
      exact ⟨_, rfl, Row.empty w f, below_alloc1 _ _⟩

theorem trim_any {v : Value} {n : Nat} {f : Nat → Nat} {w : World} (hL : Lim w v n f) (hnil : NilOk v) (hn : n ≤ 2097152) :
    Calls Try.prog 77 #[v] w fun e w' => ∃ v', e = .returned v' ∧ Row w.heap.size w' v' (trimN f n) f ∧ Below w.heap.size w w' := by
  obtain ⟨a, c, rfl, h1, h2, h3, h4⟩ := id hL
  rcases Nat.eq_zero_or_pos n with rfl | hp
  · exact trim_none a c f w hnil
  · obtain ⟨b, off, rfl, h5⟩ := h4 hp
    exact trim_some b off n c f w hL hn hp h1 h5

set_option maxHeartbeats 400000 in
theorem make_any (m : Bool) (a : Option Addr) (n c : Nat) (w : World) :
    Calls Try.prog 76 #[.bool m, .slice a n c] w fun e w' => e = .returned (.agg #[.bool (m && decide (0 < n)), .slice a n c]) ∧ Below w.heap.size w w' := by
  cases m
  · go_enter Try.func76, Try.ntmps76
    go_wp2
    refine bodyPost_ret (v := .agg #[.bool false, .slice a n c]) (by simp [results, Try.results76, go_sem]) rfl ⟨by simp, ?_⟩
    exact below_alloc1 _ _
  · go_enter Try.func76, Try.ntmps76
    go_wp2
    refine bodyPost_ret (v := .agg #[.bool (decide (0 < n)), .slice a n c]) (by simp [results, Try.results76, go_sem]) rfl ⟨by simp, ?_⟩
    exact below_alloc1 _ _

end Go.Proofs.Ytpcnmolncoaddaa
