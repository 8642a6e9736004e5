import Derived.Test.YtcmelghjoapglaaFC
import Derived.Maps.Views
import Derived.Maps.OwnSet
import Derived.Maps.OwnIn
namespace Go.Proofs.Ytcmelghjoapglaa
open Go.RowKit Go.Joins

/-- An element stands for itself. -/
def HV (v : Value) : Option (DataW Value × List MemPlace) := some (.held v, [])

def zf : Value := .agg #[.string ⟨#[]⟩, .int .i64 0, .int .i64 0]

/-- What is looked up. -/
def lk (L : List Fx) (t : ByteArray) : Value := match fnd L t with
  | some x => fv x
  | none => zf

/-- Block M tells the fixities of L. -/
def FM (w : World) (M n : Nat) (L : List Fx) : Prop :=
  ∃ D : DataW Value, w.ownsMap Try.prog 9 HV M n D ∧ ∀ t : ByteArray, Maps.has D (.string t.data.toList) = (fnd L t).isSome ∧ D.atKey (.string t.data.toList) (.held zf) = .held (lk L t)

theorem FM.lt {w : World} {M n : Nat} {L : List Fx} (h : FM w M n L) : M < w.heap.size := by
  obtain ⟨D, hD, -⟩ := h
  exact hD.lt

theorem FM.keep {w w' : World} {M n : Nat} {L : List Fx} (h : FM w M n L) (hb : w'.heap[M]? = w.heap[M]?) : FM w' M n L := by
  obtain ⟨D, ⟨es, c, h1, h2⟩, h3⟩ := h
  exact ⟨D, ⟨es, c, hb.trans h1, h2⟩, h3⟩

theorem FM.below {w w' : World} {M n m : Nat} {L : List Fx} (h : FM w M n L) (hb : Below m w w') (hm : M < m) : FM w' M n L := h.keep (hb.block M hm)

theorem FM.start (w : World) : FM (w.alloc (.map #[] 0)) w.heap.size 0 [] :=
  ⟨.map [], World.ownsMap_made w _ _ _, fun t => ⟨by simp [Maps.has, fnd], by simp [DataW.atKey, lk, fnd]⟩⟩

theorem zero25 (w : World) : (zeroValue 25).run Try.prog w = .ok zf w := by kernel_rfl

theorem FM.look {w : World} {M n : Nat} {L : List Fx} (h : FM w M n L) (t : ByteArray) (ht : t.size ≤ maxLen) :
    (Instr.lookup 36 (.map (some M)) (.string t) true).run Try.prog w = .ok (.tuple #[lk L t, .bool (fnd L t).isSome]) w := by
  obtain ⟨D, hD, hat⟩ := h
  obtain ⟨v, ps, hrun, hv⟩ := hD.look_ok (Maps.string_keyed Try.underlying9) Try.underlying36 (zero25 w) (zd := .held zf) (zp := []) rfl (WideMaps.keyOf_string_mk Try.underlying9 ht)
  rw [hrun, (hat t).1]
  rw [(hat t).2] at hv
  simp only [HV, Option.some.injEq, Prod.mk.injEq, DataW.held.injEq] at hv
  rw [hv.1]

theorem FM.put {w' : World} {M n : Nat} {L : List Fx} {D : DataW Value} {x : Fx} (hI : Maps.IsMap D)
    (hat : ∀ t : ByteArray, Maps.has D (.string t.data.toList) = (fnd L t).isSome ∧ D.atKey (.string t.data.toList) (.held zf) = .held (lk L t)) (hx : fnd L x.nm = none)
    (ho : w'.ownsMap Try.prog 9 HV M n (D.put (.string x.nm.data.toList) (.held (fv x)))) : FM w' M n (L ++ [x]) := by
  refine ⟨_, ho, fun t => ?_⟩
  unfold lk
  rw [fnd_app]
  by_cases e : x.nm = t
  · subst e
    rw [Maps.has_put_same hI (k := .string x.nm.data.toList) trivial, Maps.atKey_put_same hI (k := .string x.nm.data.toList) trivial, hx]
    simp [fnd]
  · have hne : (Lit.string t.data.toList) ≠ .string x.nm.data.toList := fun h => by
      injection h with h
      exact e (ByteArray.ext (Array.ext' h.symm))
    rw [Maps.has_put_other hne, Maps.atKey_put_other hne, (hat t).1, (hat t).2]
    simp [fnd, e, lk]

theorem FM.told {w : World} {M n : Nat} {L : List Fx} (h : FM w M n L) {x : Fx} (hx : (fnd L x.nm).isSome = true) : FM w M (n + 1) (L ++ [x]) := by
  obtain ⟨D, hD, hat⟩ := h
  refine ⟨D, hD.mono (by omega), fun t => ?_⟩
  have : fnd (L ++ [x]) t = fnd L t := by
    rw [fnd_app]
    by_cases e : x.nm = t
    · subst e
      cases h : fnd L x.nm with
      | none => rw [h] at hx; cases hx
      | some y => rfl
    · simp [fnd, e]
  unfold lk
  rw [this]
  exact hat t

theorem run_makeMap36 (w : World) : (Instr.makeMap 36 none).run Try.prog w = .ok (.map (some w.heap.size)) (w.alloc (.map #[] 0)) := run_makeMap ..

set_option maxHeartbeats 1000000 in
set_option maxRecDepth 100000 in
theorem table_any (L : List Fx) (W : World) (a : Option Addr) (cap : Nat) (ht : ft L ≤ 1048576) (hs : FSl W W.heap.size a cap L) :
    Calls Try.prog 12 #[.slice a L.length cap] W fun e W' => e = .returned (.map (some W.heap.size)) ∧ FM W' W.heap.size L.length L ∧ Below W.heap.size W W' := by
  have hmx : L.length ≤ 1048576 := by unfold ft at ht; omega
  have hmm := @run_makeMap Try.prog
  go_enter Try.func12, Try.ntmps12
  go_wp2_with fail
  have b0 := below_alloc1 W (.map #[] 0)
  have m0 := FM.start W
  generalize W.alloc (.map #[] 0) = W0 at *
  go_loopw [11] (fun s9 wr => ∃ i : Nat, s9 = .int .i64 i ∧ i ≤ L.length ∧ FM wr W.heap.size i (L.take i) ∧ Below W.heap.size W wr) (fun s9 _ => L.length - (intOf s9).toNat)
  case atStart => exact ⟨0, rfl, by omega, m0, b0⟩
  case round =>
    obtain ⟨i, rfl, hi, hm, bel⟩ := hrel
    by_cases hl : i < L.length
    · obtain ⟨x, hx⟩ : ∃ x, L[i]? = some x := ⟨L[i], by simp [hl]⟩
      obtain ⟨b, o, rfl, hb, hrw⟩ := hs.row (by omega)
      have hok := hs.ok x (List.mem_of_getElem? hx)
      obtain ⟨c1, c2, c3⟩ := (hrw.below bel hb) i x hx
      have hl' : (i : Int) < L.length := by omega
      have ba := below_alloc1 wr (.cells #[.string x.nm, .int .i64 x.sd, .int .i64 x.lv] 25)
      have H0 := hide (hm.below ba hm.lt)
      have hmlt := hm.lt
      have hlk := H0.out.look x.nm hok.n
      have q0 := Box3.new wr (.string x.nm) (.int .i64 x.sd) (.int .i64 x.lv) 25
      obtain ⟨-, d0, d1, d2, -, -, -⟩ := id q0
      have HX := hide hx
      have HB1 : Hid (Below W.heap.size W (wr.alloc (.cells #[.string x.nm, .int .i64 x.sd, .int .i64 x.lv] 25))) := bel.trans (ba.mono bel.size)
      have HT : Hid (L.take (i + 1) = L.take i ++ [x]) := by unfold Hid; rw [List.take_add_one, hx]; rfl
      have hkey := WideMaps.keyOf_string_mk Try.underlying9 hok.n
      clear hm hx ba
      cases hf : fnd (L.take i) x.nm with
      | some y =>
        obtain ⟨yn, ys, yl⟩ := y
        have hl2 : lk (L.take i) x.nm = .agg #[.string yn, .int .i64 ys, .int .i64 yl] := by unfold lk; rw [hf]; rfl
        rw [hl2, hf] at hlk
        simp only [Option.isSome_some] at hlk
        have HF := hide hf
        clear hf hl2
        have HM2 : Hid (FM ((wr.alloc (.cells #[.string x.nm, .int .i64 x.sd, .int .i64 x.lv] 25)).alloc (.cells #[.string yn, .int .i64 ys, .int .i64 yl] 25)) W.heap.size (i + 1) (L.take (i + 1))) := by
          have := (H0.out.told (by rw [HF.out]; rfl)).below (below_alloc1 _ (.cells #[.string yn, .int .i64 ys, .int .i64 yl] 25)) (by simp; omega)
          unfold Hid
          rw [HT.out]
          exact this
        go_wp2_with fail
        go_roundw
        case rel => exact ⟨i + 1, by go_num, by omega, HM2.out, HB1.out.alloc HB1.out.size _⟩
        case measure => simp [intOf]; omega
      | none =>
        have hl2 : lk (L.take i) x.nm = .agg #[.string ⟨#[]⟩, .int .i64 0, .int .i64 0] := by unfold lk; rw [hf]; rfl
        rw [hl2, hf] at hlk
        simp only [Option.isSome_none] at hlk
        have HF := hide hf
        clear hf hl2
        have H1 := H0.out.below (below_alloc1 _ (.cells #[.string ⟨#[]⟩, .int .i64 0, .int .i64 0] 25)) (by simp; omega)
        obtain ⟨D, hown, hat⟩ := H1
        have HAT := hide hat
        have HB2 : Hid (Below W.heap.size W ((wr.alloc (.cells #[.string x.nm, .int .i64 x.sd, .int .i64 x.lv] 25)).alloc (.cells #[.string ⟨#[]⟩, .int .i64 0, .int .i64 0] 25))) := HB1.out.alloc HB1.out.size _
        clear hat
        obtain ⟨-, y0, y1, y2, -, -, -⟩ := id (q0.alloc (.cells #[.string ⟨#[]⟩, .int .i64 0, .int .i64 0] 25))
        go_wp2_with (first | (at_mapUpdate; refine wpList_mapUpdate_own _ rfl _ _ _ 36 rfl 9 25 (Maps.string_keyed Try.underlying9) Try.underlying36 _ W.heap.size i D rfl hown (by unfold maxLen; omega) _ _ _ rfl rfl hkey _ [] rfl ?_; intro w2 hown2 hg2) | fail)
        go_roundw
        case rel =>
          refine ⟨i + 1, by go_num, by omega, ?_, HB2.out.grown hg2 HB2.out.size (fun k hk => by cases hk; exact Nat.le_refl _)⟩
          rw [HT.out]
          exact FM.put hown.isMap HAT.out HF.out hown2
        case measure => simp [intOf]; omega
    · obtain rfl : i = L.length := by omega
      rw [List.take_length] at hm
      have Hm := hide hm
      clear hm
      go_wp2_with fail
      go_ret
      exact ⟨rfl, Hm.out, bel⟩

end Go.Proofs.Ytcmelghjoapglaa
