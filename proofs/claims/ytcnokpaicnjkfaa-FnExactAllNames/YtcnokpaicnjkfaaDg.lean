import Derived.Test.YtcnokpaicnjkfaaDf
import Derived.Maps.Views
import Derived.Maps.OwnSet
import Derived.Maps.OwnIn
namespace Go.Proofs.Ytcnokpaicnjkfaa
open Go.RowKit Go.Joins

/-- An element stands for itself. -/
def HVS (v : Value) : Option (DataW Value × List MemPlace) := some (.held v, [])

def unitV : Value := .agg #[]

/-- Block M holds the names of L. -/
def NM (w : World) (M n : Nat) (L : List ByteArray) : Prop :=
  ∃ D : DataW Value, w.ownsMap Try.prog 9 HVS M n D ∧ ∀ t : ByteArray, (Maps.has D (.string t.data.toList) = true ↔ t ∈ L) ∧ D.atKey (.string t.data.toList) (.held unitV) = .held unitV

theorem NM.lt {w : World} {M n : Nat} {L : List ByteArray} (h : NM w M n L) : M < w.heap.size := by
  obtain ⟨D, hD, -⟩ := h
  exact hD.lt

theorem NM.keep {w w' : World} {M n : Nat} {L : List ByteArray} (h : NM w M n L) (hb : w'.heap[M]? = w.heap[M]?) : NM w' M n L := by
  obtain ⟨D, ⟨es, c, h1, h2⟩, h3⟩ := h
  exact ⟨D, ⟨es, c, hb.trans h1, h2⟩, h3⟩

theorem NM.below {w w' : World} {M n m : Nat} {L : List ByteArray} (h : NM w M n L) (hb : Below m w w') (hm : M < m) : NM w' M n L := h.keep (hb.block M hm)

theorem NM.start (w : World) : NM (w.alloc (.map #[] 0)) w.heap.size 0 [] :=
  ⟨.map [], World.ownsMap_made w _ _ _, fun t => ⟨by simp [Maps.has], by simp [DataW.atKey]⟩⟩

theorem zero105 (w : World) : (zeroValue 154).run Try.prog w = .ok unitV w := by kernel_rfl
theorem und76 : Try.prog.underlying 155 = some (.map 9 154) := by kernel_rfl

theorem NM.look {w : World} {M n : Nat} {L : List ByteArray} (h : NM w M n L) (t : ByteArray) (ht : t.size ≤ maxLen) (r : Bool) (hr : r = true ↔ t ∈ L) :
    (Instr.lookup 155 (.map (some M)) (.string t) true).run Try.prog w = .ok (.tuple #[unitV, .bool r]) w := by
  obtain ⟨D, hD, hat⟩ := h
  obtain ⟨v, ps, hrun, hv⟩ := hD.look_ok (Maps.string_keyed Try.underlying9) und76 (zero105 w) (zd := .held unitV) (zp := []) rfl (WideMaps.keyOf_string_mk Try.underlying9 ht)
  have e : Maps.has D (.string t.data.toList) = r := by
    have h := (hat t).1.trans hr.symm
    cases h1 : Maps.has D (.string t.data.toList) <;> cases h2 : r <;> simp_all
  rw [hrun, e]
  rw [(hat t).2] at hv
  simp only [HVS, Option.some.injEq, Prod.mk.injEq, DataW.held.injEq] at hv
  rw [hv.1]

theorem NM.put {w' : World} {M n : Nat} {L : List ByteArray} {D : DataW Value} {x : ByteArray} (hI : Maps.IsMap D)
    (hat : ∀ t : ByteArray, (Maps.has D (.string t.data.toList) = true ↔ t ∈ L) ∧ D.atKey (.string t.data.toList) (.held unitV) = .held unitV)
    (ho : w'.ownsMap Try.prog 9 HVS M n (D.put (.string x.data.toList) (.held unitV))) : NM w' M n (x :: L) := by
  refine ⟨_, ho, fun t => ?_⟩
  by_cases e : t = x
  · subst e
    rw [Maps.has_put_same hI (k := .string t.data.toList) trivial, Maps.atKey_put_same hI (k := .string t.data.toList) trivial]
    simp
  · have hne : (Lit.string t.data.toList) ≠ .string x.data.toList := fun h => by
      injection h with h
      exact e (ByteArray.ext (Array.ext' h))
    rw [Maps.has_put_other hne, Maps.atKey_put_other hne, (hat t).1, (hat t).2]
    simp [e]

theorem wpList_insert_own {H : Type} {P : Program} (w : World) {ops : Array Oper} {rest : List Oper} {o : Oper} {a : Act} {Q : Exit → Act → World → Prop}
    (hg : o.guard = none) (m x v : Operand) (t : TypeId) (hop : o.op = Op.insert t m x v)
    (k e : TypeId) (K : Maps.Keyed P k) (ht : P.underlying t = some (.map k e)) (R : Value → Option (DataW H × List MemPlace)) (b n : Nat) (D : DataW H)
    (hm : a.eval m = .map (some b)) (hown : w.ownsMap P k R b n D) (hn : n < maxLen) (key val : Value) (kl : Lit) (hx : a.eval x = key) (hv : a.eval v = val) (hkey : keyOf P k key = some kl)
    (d : DataW H) (ps : List MemPlace) (hval : R val = some (d, ps))
    (hK : ∀ w', w'.ownsMap P k R b (n + 1) (D.put kl d) → w.grownBy w' (some b) → wpList P ops Q rest (a.put o.dst undef) w') :
    wpList P ops Q (o :: rest) a w := by
  refine wpList_plain hg fun K' hK' => ?_
  obtain ⟨w', hrun, r1, r2⟩ := hown.update K ht hn hkey hval
  unfold Oper.wp
  simp [execOp, hop, hm, hx, hv, hrun, Result.andThen]
  exact hK' _ _ (hK w' r1 r2)

/-- What of L has been put in. -/
def inS (L : List ByteArray) (i : Nat) : List ByteArray := (L.take i).reverse ++ [⟨#[]⟩]

theorem inS_next {L : List ByteArray} {i : Nat} {x : ByteArray} (h : L[i]? = some x) : inS L (i + 1) = x :: inS L i := by
  unfold inS
  rw [List.take_add_one, h]
  simp

theorem not_ok {L : List ByteArray} {i : Nat} {x : ByteArray} (h : L[i]? = some x) (hx : x ∈ inS L i) : ¬ okNames L := by
  rintro ⟨h1, h2⟩
  unfold inS at hx
  rw [List.mem_append, List.mem_reverse, List.mem_singleton] at hx
  rcases hx with hx | hx
  · have hl : i < L.length := (List.getElem?_eq_some_iff.1 h).1
    have e := List.take_append_drop i L
    rw [← e, List.nodup_append] at h2
    refine h2.2.2 x hx x ?_ rfl
    rw [List.drop_eq_getElem_cons hl]
    have e2 := (List.getElem?_eq_some_iff.1 h).2
    rw [e2]
    exact List.mem_cons_self
  · exact h1 x (List.mem_of_getElem? h) hx

theorem ok_next {L : List ByteArray} {i : Nat} {x : ByteArray} (h : L[i]? = some x) (hx : ¬ x ∈ inS L i) (hk : okNames (L.take i)) : okNames (L.take (i + 1)) := by
  unfold inS at hx
  rw [List.mem_append, List.mem_reverse, List.mem_singleton] at hx
  rw [List.take_add_one, h]
  refine ⟨fun y hy => ?_, ?_⟩
  · rw [List.mem_append] at hy
    rcases hy with hy | hy
    · exact hk.1 y hy
    · simp only [Option.toList_some, List.mem_singleton] at hy
      subst hy
      exact fun e => hx (Or.inr e)
  · simp only [Option.toList_some]
    rw [List.nodup_append]
    refine ⟨hk.2, by simp, fun a ha b hb e => ?_⟩
    rw [List.mem_singleton] at hb
    subst hb
    subst e
    exact hx (Or.inl ha)

set_option maxHeartbeats 1000000 in
set_option maxRecDepth 100000 in
theorem i_names (a : Option Addr) (c : Nat) (L : List ByteArray) (W : World) (nb : Nat) (hnb : nb ≤ W.heap.size) (hmx : L.length ≤ 16777216) (hs : SR W (fun b => b < nb) a c L) (hsz : ∀ x ∈ L, x.size ≤ maxLen) (q : Bool) (hq : q = true ↔ okNames L) :
    Calls Try.prog 97 #[.slice a L.length c] W fun e W' => e = .returned (.bool q) ∧ Below W.heap.size W W' := by
  have hmm := @run_makeMap Try.prog
  obtain ⟨n, hn⟩ : ∃ n, n = L.length := ⟨_, rfl⟩
  rw [← hn] at hmx ⊢
  have HN := hide hn
  have HQ := hide hq
  have HS := hide hs
  have HSZ := hide hsz
  have m0 := NM.start W
  obtain ⟨D0, hown0, hat0⟩ := m0
  have HAT0 := hide hat0
  have b0 := below_alloc1 W (.map #[] 0)
  have hkey0 := WideMaps.keyOf_string_mk Try.underlying9 (s := ⟨#[]⟩) (by decide)
  have HB0 := hide b0
  clear hn hq hs hsz hat0 b0
  go_enter Try.func97, Try.ntmps97
  go_wp2_with (first | (refine wpList_insert_own _ rfl _ _ _ 155 rfl 9 154 (Maps.string_keyed Try.underlying9) und76 HVS W.heap.size 0 D0 rfl hown0 (by unfold maxLen; omega) _ _ _ rfl rfl hkey0 _ [] rfl ?_; intro w2 hown2 hg2) | fail)
  have HM1 : Hid (NM w2 W.heap.size (0 + 1) (inS L 0)) := NM.put hown0.isMap HAT0.out hown2
  have HB1 : Hid (Below W.heap.size W w2) := HB0.out.grown hg2 HB0.out.size (fun k hk => by cases hk; exact Nat.le_refl _)
  clear hown2 hg2 hown0 HAT0 HB0 hkey0
  go_loopw [13] (fun s13 wr => ∃ i : Nat, s13 = .int .i64 i ∧ i ≤ n ∧ Hid (NM wr W.heap.size (i + 1) (inS L i)) ∧ Hid (Below W.heap.size W wr) ∧ Hid (okNames (L.take i))) (fun s13 _ => n - (intOf s13).toNat)
  case atStart => exact ⟨0, rfl, Nat.zero_le _, HM1, HB1, ⟨fun x hx => by simp at hx, by simp⟩⟩
  case round =>
    obtain ⟨i, rfl, hin, hm, bel, hok⟩ := hrel
    by_cases hl : i < n
    · obtain ⟨x, hx⟩ : ∃ x, L[i]? = some x := ⟨_, List.getElem?_eq_getElem (by rw [← HN.out]; exact hl)⟩
      have hl' : (i : Int) < n := by omega
      have hne : L ≠ [] := fun e => by rw [e] at hx; simp at hx
      obtain ⟨b, o, rfl, hb, hrw⟩ := HS.out.at_ hne
      have hce : wr.cell? ⟨b, o + i, none⟩ = some (.string x) := (bel.out.cell (p := ⟨b, o + i, none⟩) (by show b < _; omega)).trans (hrw i x hx)
      have hxs := HSZ.out x (List.mem_of_getElem? hx)
      have hkey := WideMaps.keyOf_string_mk Try.underlying9 hxs
      by_cases hmem : x ∈ inS L i
      · have hlk := hm.out.look x hxs true (by simp [hmem])
        have HQF : Hid (q = false) := by
          have := not_ok hx hmem
          cases hq2 : q with
          | false => rfl
          | true => exact absurd (HQ.out.1 hq2) this
        have hu : unitV = .agg #[] := rfl
        rw [hu] at hlk
        clear hx hrw hne hmem hm hu
        go_wp2_with fail
        go_ret
        exact ⟨by rw [HQF.out]; rfl, bel.out.alloc bel.out.size _⟩
      · have hlk := hm.out.look x hxs false (by simp [hmem])
        have hu : unitV = .agg #[] := rfl
        rw [hu] at hlk
        have ba := below_alloc1 wr (.cells #[] 154)
        obtain ⟨D, hown, hat⟩ := hm.out.below ba hm.out.lt
        have HAT := hide hat
        have HB2 : Hid (Below W.heap.size W (wr.alloc (.cells #[] 154))) := bel.out.alloc bel.out.size _
        have HOK := hide (ok_next hx hmem hok.out)
        have HIN := hide (inS_next hx)
        have hlt := hm.out.lt
        clear hx hrw hne hmem hm hat ba hu
        go_wp2_with (first | (at_mapUpdate; refine wpList_mapUpdate_own _ rfl _ _ _ 155 rfl 9 154 (Maps.string_keyed Try.underlying9) und76 HVS W.heap.size (i + 1) D rfl hown (by unfold maxLen; omega) _ _ _ rfl rfl hkey _ [] rfl ?_; intro w3 hown3 hg3) | fail)
        go_roundw
        case rel =>
          refine ⟨i + 1, by go_num, by omega, ?_, HB2.out.grown hg3 HB2.out.size (fun k hk => by cases hk; exact Nat.le_refl _), HOK⟩
          show NM _ _ _ _
          rw [HIN.out]
          exact NM.put hown.isMap HAT.out hown3
        case measure => simp [intOf]; omega
    · obtain rfl : i = n := by omega
      have hji : ¬ (i : Int) < i := by omega
      have HQF : Hid (q = true) := by
        have h := hok.out
        rw [HN.out, List.take_length] at h
        exact HQ.out.2 h
      clear hm
      go_wp2_with fail
      go_ret
      exact ⟨by rw [HQF.out]; rfl, bel.out⟩

end Go.Proofs.Ytcnokpaicnjkfaa
