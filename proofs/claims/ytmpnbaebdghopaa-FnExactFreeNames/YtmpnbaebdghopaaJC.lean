import Derived.Test.YtmpnbaebdghopaaDp
namespace Go.Proofs.Ytmpnbaebdghopaa
open Go.RowKit Go.Joins

/-- Block M tells how often each name is bound. -/
def HM (w : World) (M n : Nat) (f : ByteArray → Int) : Prop :=
  ∃ D : DataW Value, w.ownsMap Try.prog 9 HVS M n D ∧ ∀ t : ByteArray, D.atKey (.string t.data.toList) (.held (.int .i64 0)) = .held (.int .i64 (f t))

theorem HM.lt {w : World} {M n : Nat} {f : ByteArray → Int} (h : HM w M n f) : M < w.heap.size := by
  obtain ⟨D, hD, -⟩ := h
  exact hD.lt

theorem HM.keep {w w' : World} {M n : Nat} {f : ByteArray → Int} (h : HM w M n f) (hb : w'.heap[M]? = w.heap[M]?) : HM w' M n f := by
  obtain ⟨D, ⟨es, c, h1, h2⟩, h3⟩ := h
  exact ⟨D, ⟨es, c, hb.trans h1, h2⟩, h3⟩

theorem HM.below {w w' : World} {M n m : Nat} {f : ByteArray → Int} (h : HM w M n f) (hb : Below m w w') (hm : M < m) : HM w' M n f := h.keep (hb.block M hm)

theorem HM.kept {w w' : World} {M n : Nat} {S : Nat → Prop} {f : ByteArray → Int} (h : HM w M n f) (k : Kept S w w') (hS : S M) : HM w' M n f := h.keep (k.block M h.lt hS)

theorem NM.kept {w w' : World} {M n : Nat} {S : Nat → Prop} {L : List ByteArray} (h : NM w M n L) (k : Kept S w w') (hS : S M) : NM w' M n L := h.keep (k.block M h.lt hS)

theorem HM.mono {w : World} {M n m : Nat} {f : ByteArray → Int} (h : HM w M n f) (hm : n ≤ m) : HM w M m f := by
  obtain ⟨D, hD, h3⟩ := h
  exact ⟨D, hD.mono hm, h3⟩

theorem NM.mono {w : World} {M n m : Nat} {L : List ByteArray} (h : NM w M n L) (hm : n ≤ m) : NM w M m L := by
  obtain ⟨D, hD, h3⟩ := h
  exact ⟨D, hD.mono hm, h3⟩

theorem HM.start (w : World) : HM (w.alloc (.map #[] 0)) w.heap.size 0 (fun _ => 0) :=
  ⟨.map [], World.ownsMap_made w _ _ _, fun t => by simp [DataW.atKey]⟩

theorem zero3 (w : World) : (zeroValue 3).run Try.prog w = .ok (.int .i64 0) w := by kernel_rfl
theorem und75 : Try.prog.underlying 75 = some (.map 9 3) := by kernel_rfl

open Classical in
/-- One count changed. -/
noncomputable def upd (f : ByteArray → Int) (x : ByteArray) (v : Int) : ByteArray → Int := fun t => if t = x then v else f t

theorem HM.put {w' : World} {M n : Nat} {f : ByteArray → Int} {D : DataW Value} {x : ByteArray} {v : Int} (hI : Maps.IsMap D)
    (hat : ∀ t : ByteArray, D.atKey (.string t.data.toList) (.held (.int .i64 0)) = .held (.int .i64 (f t)))
    (ho : w'.ownsMap Try.prog 9 HVS M n (D.put (.string x.data.toList) (.held (.int .i64 v)))) : HM w' M n (upd f x v) := by
  refine ⟨_, ho, fun t => ?_⟩
  by_cases e : t = x
  · subst e
    rw [Maps.atKey_put_same hI (k := .string t.data.toList) trivial]
    simp [upd]
  · have hne : (Lit.string t.data.toList) ≠ .string x.data.toList := fun h => by
      injection h with h
      exact e (ByteArray.ext (Array.ext' h))
    rw [Maps.atKey_put_other hne, hat t]
    simp [upd, e]

theorem HM.look {w : World} {M n : Nat} {f : ByteArray → Int} (h : HM w M n f) (t : ByteArray) (ht : t.size ≤ maxLen) :
    (Instr.lookup 75 (.map (some M)) (.string t) false).run Try.prog w = .ok (.int .i64 (f t)) w := by
  obtain ⟨D, hD, hat⟩ := h
  obtain ⟨v, ps, hrun, hv⟩ := hD.lookup (Maps.string_keyed Try.underlying9) und75 (zero3 w) (zd := .held (.int .i64 0)) (zp := []) rfl (WideMaps.keyOf_string_mk Try.underlying9 ht)
  rw [hrun]
  rw [hat t] at hv
  simp only [HVS, Option.some.injEq, Prod.mk.injEq, DataW.held.injEq] at hv
  rw [hv.1]

open Classical in
/-- How often a name stands in a list. -/
noncomputable def cntN (t : ByteArray) (L : List ByteArray) : Nat := (L.filter (fun x => decide (x = t))).length

theorem cntN_nil (t : ByteArray) : cntN t [] = 0 := rfl

theorem cntN_take {L : List ByteArray} {i : Nat} {x : ByteArray} (h : L[i]? = some x) (t : ByteArray) : cntN t (L.take (i + 1)) = cntN t (L.take i) + (cntN t [x]) := by
  unfold cntN
  rw [List.take_add_one, h, List.filter_append, List.length_append]
  rfl

theorem cntN_one_same (x : ByteArray) : cntN x [x] = 1 := by simp [cntN]
theorem cntN_one_other {t x : ByteArray} (h : ¬ t = x) : cntN t [x] = 0 := by
  have h2 : ¬ x = t := fun e => h e.symm
  simp [cntN, h2]

theorem cntN_le (t : ByteArray) (L : List ByteArray) : cntN t L ≤ L.length := List.length_filter_le _ _

theorem cntN_mem (t : ByteArray) (L : List ByteArray) : 0 < cntN t L ↔ t ∈ L := by
  unfold cntN
  rw [List.length_pos_iff_exists_mem]
  constructor
  · rintro ⟨x, hx⟩
    rw [List.mem_filter] at hx
    have e := of_decide_eq_true hx.2
    rw [← e]
    exact hx.1
  · intro h
    exact ⟨t, List.mem_filter.2 ⟨h, by simp⟩⟩

/-- Names bound. -/
noncomputable def incF (f : ByteArray → Int) (L : List ByteArray) : ByteArray → Int := fun t => f t + cntN t L

theorem incF_next {L : List ByteArray} {i : Nat} {x : ByteArray} (f : ByteArray → Int) (h : L[i]? = some x) : upd (incF f (L.take i)) x (incF f (L.take i) x + 1) = incF f (L.take (i + 1)) := by
  funext t
  unfold upd incF
  rw [cntN_take h t]
  by_cases e : t = x
  · subst e
    rw [if_pos rfl, cntN_one_same]
    omega
  · rw [if_neg e, cntN_one_other e]
    omega

/-- And let go. -/
noncomputable def decF (f : ByteArray → Int) (L : List ByteArray) (i : Nat) : ByteArray → Int := fun t => f t + cntN t L - cntN t (L.take i)

theorem decF_next {L : List ByteArray} {i : Nat} {x : ByteArray} (f : ByteArray → Int) (h : L[i]? = some x) : upd (decF f L i) x (decF f L i x - 1) = decF f L (i + 1) := by
  funext t
  unfold upd decF
  rw [cntN_take h t]
  by_cases e : t = x
  · subst e
    rw [if_pos rfl, cntN_one_same]
    omega
  · rw [if_neg e, cntN_one_other e]
    omega

theorem decF_zero (f : ByteArray → Int) (L : List ByteArray) : decF f L 0 = incF f L := by
  funext t
  unfold decF incF
  rw [List.take_zero, cntN_nil]
  simp

theorem decF_end (f : ByteArray → Int) (L : List ByteArray) : decF f L L.length = f := by
  funext t
  unfold decF
  rw [List.take_length]
  omega

end Go.Proofs.Ytmpnbaebdghopaa

namespace Go.Proofs.Ytmpnbaebdghopaa
open Go.RowKit Go.Joins

set_option maxHeartbeats 2000000 in
set_option maxRecDepth 100000 in
/-- Names bound while a closure runs. -/
theorem i_reach (g : Nat) (cap : Array Value) (heg : ∀ args w, (callFunc g args).run Try.prog w = .ok (.enter g args) w) (fb hb : Nat) (hne : fb ≠ hb) (a : Option Addr) (c : Nat) (L : List ByteArray) (W : World) (f : ByteArray → Int) (n n2 Bd : Nat) (hm : HM W hb n f) (hf : ∀ t, 0 ≤ f t ∧ f t ≤ Bd) (hB : Bd ≤ 1099511627776 ∧ L.length ≤ 16777216 ∧ n ≤ 1099511627776 ∧ n2 ≤ 1099511627776)
    (hcl : W.cell? ⟨fb, 0, none⟩ = some (.map (some hb))) (hs : SR W (fun b => b ≠ hb ∧ b < W.heap.size) a c L) (hsz : ∀ x ∈ L, x.size ≤ maxLen) (Post : World → Prop)
    (hgo : ∀ W1, Kept (fun b => b ≠ hb) W W1 → HM W1 hb (n + L.length) (incF f L) → Calls Try.prog g cap W1 (fun e W2 => (∃ v, e = .returned v) ∧ Post W2))
    (hP : ∀ W2, Post W2 → HM W2 hb n2 (incF f L) ∧ W2.cell? ⟨fb, 0, none⟩ = some (.map (some hb)) ∧ SR W2 (fun b => b ≠ hb ∧ b < W2.heap.size) a c L) :
    Calls Try.prog 145 #[.pointer (some ⟨fb, 0, none⟩), .slice a L.length c, .func (.func g) #[] cap] W (fun e W3 => (∃ v, e = .returned v) ∧ ∃ W2, Post W2 ∧ Kept (fun b => b ≠ hb) W2 W3 ∧ HM W3 hb (n2 + L.length) f) := by
  obtain ⟨l, hl⟩ : ∃ l, l = L.length := ⟨_, rfl⟩
  rw [← hl] at hB hgo ⊢
  have HL := hide hl
  have HS := hide hs
  have HSZ := hide hsz
  have HGO := hide hgo
  have HP := hide hP
  have HF := hide hf
  have HM0 : Hid (HM W hb (n + 0) (incF f (L.take 0))) := by
    have e : incF f (L.take 0) = f := by funext t; unfold incF; rw [List.take_zero, cntN_nil]; simp
    unfold Hid
    rw [e]
    exact hm
  have hB1 := hB.1
  have hB2 := hB.2.1
  have hB3 := hB.2.2.1
  have hB4 := hB.2.2.2
  have HCL := hide hcl
  have hfl : fb < W.heap.size := block_lt_of_cell hcl
  clear hl hs hsz hgo hP hf hm hB
  go_enter Try.func145, Try.ntmps145
  go_wp2_with fail
  go_loopw [12] (fun s12 wr => ∃ i : Nat, s12 = .int .i64 i ∧ i ≤ l ∧ Hid (HM wr hb (n + i) (incF f (L.take i))) ∧ Hid (Kept (fun b => b ≠ hb) W wr)) (fun s12 _ => l - (intOf s12).toNat)
  case atStart => exact ⟨0, rfl, Nat.zero_le _, HM0, Kept.refl _ _⟩
  case round =>
    clear hcl
    obtain ⟨i, rfl, hin, hm, hk⟩ := hrel
    have hcl := (hk.out.cell (p := ⟨fb, 0, none⟩) hfl hne).trans HCL.out
    by_cases hi : i < l
    · obtain ⟨x, hx⟩ : ∃ x, L[i]? = some x := ⟨_, List.getElem?_eq_getElem (by rw [← HL.out]; exact hi)⟩
      have hii : (i : Int) < l := by omega
      have hnn : L ≠ [] := fun e => by rw [e] at hx; simp at hx
      obtain ⟨b, o, rfl, hb2, hrw⟩ := HS.out.at_ hnn
      have hce : wr.cell? ⟨b, o + i, none⟩ = some (.string x) := (hk.out.cell (p := ⟨b, o + i, none⟩) hb2.2 hb2.1).trans (hrw i x hx)
      have hxs := HSZ.out x (List.mem_of_getElem? hx)
      have hkey := WideMaps.keyOf_string_mk Try.underlying9 hxs
      have hlk := hm.out.look x hxs
      obtain ⟨z, hz⟩ : ∃ z, z = incF f (L.take i) x := ⟨_, rfl⟩
      have hzb : 0 ≤ z ∧ z ≤ 1099528404992 := by
        have h1 := HF.out x
        have h2 := cntN_le x (L.take i)
        rw [List.length_take] at h2
        rw [hz]
        unfold incF
        omega
      have hzb1 := hzb.1
      have hzb2 := hzb.2
      obtain ⟨D, hown, hat⟩ := hm.out
      have HAT := hide hat
      have HNX := hide (incF_next f hx)
      rw [← hz] at HNX hlk
      clear hx hrw hnn hz hm hat hzb
      go_wp2_with (first | (at_mapUpdate; refine wpList_mapUpdate_own _ rfl _ _ _ 75 rfl 9 3 (Maps.string_keyed Try.underlying9) und75 HVS hb (n + i) D rfl hown (by unfold maxLen; omega) _ _ _ rfl rfl hkey _ [] rfl ?_; intro w3 hown3 hg3) | fail)
      go_roundw
      case rel =>
        refine ⟨i + 1, by go_num, by omega, ?_, hk.out.trans (Kept.grown hg3 (fun k hk2 e => e (Option.some.inj hk2).symm))⟩
        show HM _ _ _ _
        rw [← HNX.out]
        exact HM.put hown.isMap HAT.out hown3
      case measure => simp [intOf]; omega
    · obtain rfl : i = l := by omega
      have hji : ¬ (i : Int) < i := by omega
      have HM1 : Hid (HM wr hb (n + i) (incF f L)) := by
        have h := hm.out
        rw [HL.out, List.take_length] at h
        rw [HL.out]
        exact h
      clear hm
      go_wp2_with fail
      refine (HGO.out wr hk.out HM1.out).mono ?_
      rintro e W2 ⟨⟨v0, rfl⟩, hpost⟩
      obtain ⟨hm2, hcl2, hs2⟩ := HP.out W2 hpost
      have HPO := hide hpost
      have HS2 := hide hs2
      have HCL2 := hide hcl2
      have hfl2 : fb < W2.heap.size := block_lt_of_cell hcl2
      have HM2 : Hid (HM W2 hb (n2 + 0) (decF f L 0)) := by
        unfold Hid
        rw [decF_zero]
        exact hm2
      clear hpost hs2 hcl2 hm2 hcl hk HM1 HM0 HGO HP HS HCL
      go_wp2_with fail
      go_loopw [28] (fun s28 wr => ∃ j : Nat, s28 = .int .i64 j ∧ j ≤ i ∧ Hid (HM wr hb (n2 + j) (decF f L j)) ∧ Hid (Kept (fun b => b ≠ hb) W2 wr)) (fun s28 _ => i - (intOf s28).toNat)
      case atStart => exact ⟨0, rfl, Nat.zero_le _, HM2, Kept.refl _ _⟩
      case round =>
        obtain ⟨j, rfl, hjn, hm, hk⟩ := hrel
        have hcl := (hk.out.cell (p := ⟨fb, 0, none⟩) hfl2 hne).trans HCL2.out
        by_cases hj : j < i
        · obtain ⟨x, hx⟩ : ∃ x, L[j]? = some x := ⟨_, List.getElem?_eq_getElem (by rw [← HL.out]; exact hj)⟩
          have hjj : (j : Int) < i := by omega
          have hnn : L ≠ [] := fun e => by rw [e] at hx; simp at hx
          obtain ⟨b, o, rfl, hb2, hrw⟩ := HS2.out.at_ hnn
          have hce : wr.cell? ⟨b, o + j, none⟩ = some (.string x) := (hk.out.cell (p := ⟨b, o + j, none⟩) hb2.2 hb2.1).trans (hrw j x hx)
          have hxs := HSZ.out x (List.mem_of_getElem? hx)
          have hkey := WideMaps.keyOf_string_mk Try.underlying9 hxs
          have hlk := hm.out.look x hxs
          obtain ⟨z, hz⟩ : ∃ z, z = decF f L j x := ⟨_, rfl⟩
          have hzb : -16777217 ≤ z ∧ z ≤ 1099528404992 := by
            have h1 := HF.out x
            have h2 := cntN_le x (L.take j)
            have h3 := cntN_le x L
            rw [List.length_take] at h2
            have h4 := HL.out
            rw [hz]
            unfold decF
            omega
          have hzb1 := hzb.1
          have hzb2 := hzb.2
          obtain ⟨D, hown, hat⟩ := hm.out
          have HAT := hide hat
          have HNX := hide (decF_next f hx)
          rw [← hz] at HNX hlk
          clear hx hrw hnn hz hm hat hzb
          go_wp2_with (first | (at_mapUpdate; refine wpList_mapUpdate_own _ rfl _ _ _ 75 rfl 9 3 (Maps.string_keyed Try.underlying9) und75 HVS hb (n2 + j) D rfl hown (by unfold maxLen; omega) _ _ _ rfl rfl hkey _ [] rfl ?_; intro w3 hown3 hg3) | fail)
          go_roundw
          case rel =>
            refine ⟨j + 1, by go_num, by omega, ?_, hk.out.trans (Kept.grown hg3 (fun k hk2 e => e (Option.some.inj hk2).symm))⟩
            show HM _ _ _ _
            rw [← HNX.out]
            exact HM.put hown.isMap HAT.out hown3
          case measure => simp [intOf]; omega
        · obtain rfl : j = i := by omega
          have hjj : ¬ (j : Int) < j := by omega
          have HME : Hid (HM wr hb (n2 + j) f) := by
            have h := hm.out
            have e : decF f L j = f := by rw [HL.out]; exact decF_end f L
            rw [e] at h
            exact h
          clear hm
          go_wp2_with fail
          go_end0
          exact ⟨⟨_, rfl⟩, W2, HPO.out, hk.out, HME.out⟩

end Go.Proofs.Ytmpnbaebdghopaa

namespace Go.Proofs.Ytmpnbaebdghopaa
open Go.RowKit Go.Joins

/-- The finder of free names in memory: fb holds it, hb how often names are bound, kb the names found, ob is the block of their row. -/
structure FS (B0 fb hb kb : Nat) (f : ByteArray → Int) (M : List ByteArray) (n : Nat) (ob : Option Nat) (w : World) : Prop where
  c0 : w.cell? ⟨fb, 0, none⟩ = some (.map (some hb))
  c1 : w.cell? ⟨fb, 1, none⟩ = some (.map (some kb))
  c2 : ∃ a cp, w.cell? ⟨fb, 2, none⟩ = some (.slice a M.length cp) ∧ w.ownsRow B0 9 1 (.slice a M.length cp) M.length (M.map Value.string) ∧ (Value.slice a M.length cp).ownBlock = ob
  fz : w.frozen? ⟨fb, 2, none⟩ = false
  hm : HM w hb n f
  km : NM w kb n M
  ne : fb ≠ hb ∧ fb ≠ kb ∧ hb ≠ kb ∧ ob ≠ some fb ∧ ob ≠ some hb ∧ ob ≠ some kb
  lo : B0 ≤ fb ∧ B0 ≤ hb ∧ B0 ≤ kb

/-- What the finder leaves alone. -/
def Off (fb hb kb : Nat) (ob : Option Nat) (b : Nat) : Prop := b ≠ fb ∧ b ≠ hb ∧ b ≠ kb ∧ ob ≠ some b

/-- From one state to the next. -/
structure FT (B0 fb hb kb : Nat) (f : ByteArray → Int) (M' : List ByteArray) (n' : Nat) (ob : Option Nat) (W W' : World) : Prop where
  st : ∃ n1 ob', n1 ≤ n' ∧ (ob' = ob ∨ ∃ b, ob' = some b ∧ W.heap.size ≤ b) ∧ FS B0 fb hb kb f M' n1 ob' W'
  kp : Kept (Off fb hb kb ob) W W'

theorem FS.mono {B0 fb hb kb : Nat} {f : ByteArray → Int} {M : List ByteArray} {n m : Nat} {ob : Option Nat} {w : World} (h : FS B0 fb hb kb f M n ob w) (hm : n ≤ m) : FS B0 fb hb kb f M m ob w :=
  ⟨h.c0, h.c1, h.c2, h.fz, h.hm.mono hm, h.km.mono hm, h.ne, h.lo⟩

theorem FS.fb_lt {B0 fb hb kb : Nat} {f : ByteArray → Int} {M : List ByteArray} {n : Nat} {ob : Option Nat} {w : World} (h : FS B0 fb hb kb f M n ob w) : fb < w.heap.size := block_lt_of_cell h.c0

theorem FS.ob_lt {B0 fb hb kb : Nat} {f : ByteArray → Int} {M : List ByteArray} {n : Nat} {ob : Option Nat} {w : World} (h : FS B0 fb hb kb f M n ob w) : ∀ b, ob = some b → B0 ≤ b ∧ b < w.heap.size := fun b hb => by
  obtain ⟨a, cp, -, ho, he⟩ := h.c2
  exact World.ownsRow.lt ho b (he.trans hb)

/-- A world that keeps all of the finder's blocks keeps the state. -/
theorem FS.kept {B0 fb hb kb : Nat} {f : ByteArray → Int} {M : List ByteArray} {n : Nat} {ob : Option Nat} {A B : World} {S : Nat → Prop} (h : FS B0 fb hb kb f M n ob A) (k : Kept S A B) (h1 : S fb) (h2 : S hb) (h3 : S kb) (h4 : ∀ b, ob = some b → S b) : FS B0 fb hb kb f M n ob B := by
  have hl := h.fb_lt
  obtain ⟨a, cp, e1, e2, e3⟩ := h.c2
  exact ⟨(k.cell (p := ⟨fb, 0, none⟩) hl h1).trans h.c0, (k.cell (p := ⟨fb, 1, none⟩) hl h1).trans h.c1, ⟨a, cp, (k.cell (p := ⟨fb, 2, none⟩) hl h1).trans e1, ownsRow_kept e2 k (fun b hb => h4 b (e3.symm.trans hb)), e3⟩, (k.frozen (p := ⟨fb, 2, none⟩) hl h1).trans h.fz, h.hm.kept k h2, h.km.kept k h3, h.ne, h.lo⟩

theorem FS.below {B0 fb hb kb : Nat} {f : ByteArray → Int} {M : List ByteArray} {n : Nat} {ob : Option Nat} {A B : World} (h : FS B0 fb hb kb f M n ob A) (k : Below A.heap.size A B) : FS B0 fb hb kb f M n ob B :=
  h.kept (kt (S := fun _ => True) k) trivial trivial trivial (fun _ _ => trivial)

/-- What is left alone now is left alone later. -/
theorem Off.next {fb hb kb : Nat} {ob ob' : Option Nat} {W : World} {b : Nat} (h : Off fb hb kb ob b) (hl : b < W.heap.size) (ho : ob' = ob ∨ ∃ b, ob' = some b ∧ W.heap.size ≤ b) : Off fb hb kb ob' b := by
  refine ⟨h.1, h.2.1, h.2.2.1, fun e => ?_⟩
  rcases ho with ho | ⟨b', ho, hb'⟩
  · exact h.2.2.2 (ho.symm.trans e)
  · rw [ho] at e
    have := Option.some.inj e
    omega

/-- What is below the finder is left alone. -/
theorem FS.off {B0 fb hb kb : Nat} {f : ByteArray → Int} {M : List ByteArray} {n : Nat} {ob : Option Nat} {w : World} (h : FS B0 fb hb kb f M n ob w) {b : Nat} (hb' : b < B0) : Off fb hb kb ob b := by
  have h1 := h.lo
  refine ⟨by omega, by omega, by omega, fun e => ?_⟩
  have := (h.ob_lt b e).1
  omega

theorem FT.trans {B0 fb hb kb : Nat} {f : ByteArray → Int} {M1 M2 : List ByteArray} {n1 n2 : Nat} {ob : Option Nat} {A B C : World} (h : FT B0 fb hb kb f M1 n1 ob A B) (h2 : ∀ n ob', n ≤ n1 → FS B0 fb hb kb f M1 n ob' B → FT B0 fb hb kb f M2 n2 ob' B C) : FT B0 fb hb kb f M2 n2 ob A C := by
  obtain ⟨⟨m, ob', hm, ho, hs⟩, hk⟩ := h
  obtain ⟨⟨m2, ob2, hm2, ho2, hs2⟩, hk2⟩ := h2 m ob' hm hs
  refine ⟨⟨m2, ob2, hm2, ?_, hs2⟩, hk.trans2 hk2 (fun b hb' hx => ?_)⟩
  · rcases ho2 with e | ⟨b, e, hb'⟩
    · rw [e]; exact ho
    · exact .inr ⟨b, e, Nat.le_trans hk.size hb'⟩
  · exact Off.next hx hb' ho

/-- look at a term: the names that stand free in it come behind those found. -/
def LkC (m : Nat) : Prop := ∀ (B0 fb hb kb : Nat) (f : ByteArray → Int) (B M : List ByteArray) (n Bd : Nat) (ob : Option Nat) (d : Nd) (W : World), d.x.size ≤ m ∧ d.x.wt ≤ 1048576 → d.x.size + M.length ≤ 16777216 → Bd + d.x.size ≤ 1099511627776 → n + 4 * d.x.size ≤ 1099511627776 →
  d.Ok W (fun b => b < B0) → (rdK d.x).good → FS B0 fb hb kb f M n ob W → (∀ t, 0 ≤ f t ∧ f t ≤ Bd) → (∀ t, ¬ t = ⟨#[]⟩ → (0 < f t ↔ t ∈ B)) →
  Calls Try.prog 43 #[.pointer (some ⟨fb, 0, none⟩), d.ptr] W fun e W' => (∃ v, e = .returned v) ∧ FT B0 fb hb kb f (adds M ((rdK d.x).occ B B).flatten) (n + 4 * d.x.size) ob W W'

end Go.Proofs.Ytmpnbaebdghopaa

namespace Go.Proofs.Ytmpnbaebdghopaa
open Go.RowKit Go.Joins

theorem me_look (p : Addr) (w : World) : (method 318 148 (.pointer (some p)) "loop.example/g00017/impl.look").run Try.prog w = .ok (43, .pointer (some p)) w := by kernel_rfl
theorem na_look (p : Addr) (w : World) : (nilAhead 318 148 (.pointer (some p)) "loop.example/g00017/impl.look").run Try.prog w = .ok (some false) w := by kernel_rfl
theorem na_reach (p : Addr) (w : World) : (nilAhead 318 148 (.pointer (some p)) "loop.example/g00017/impl.inReach").run Try.prog w = .ok (some false) w := by kernel_rfl
theorem me_reach (p : Addr) (w : World) : (method 318 148 (.pointer (some p)) "loop.example/g00017/impl.inReach").run Try.prog w = .ok (145, .pointer (some p)) w := by kernel_rfl

set_option maxHeartbeats 2000000 in
set_option maxRecDepth 100000 in
/-- The kids of a term, one behind the other. -/
theorem go_120 (m : Nat) (ih : LkC m) (B0 fb hb kb cb vb db do_ : Nat) (f : ByteArray → Int) (B M : List ByteArray) (n Bd : Nat) (ob : Option Nat) (ka : Option Addr) (kn kc : Nat) (kk : Fo) (W : World) (hm : kk.size ≤ m ∧ kk.wt ≤ 1048576) (hM : kk.size + M.length ≤ 16777216) (hBd : Bd + kk.size ≤ 1099511627776) (hn : n + 4 * kk.size ≤ 1099511627776)
    (hfit : Fit E kk (rep (E 3) kn)) (hsub : kk.Sub W (fun b => b < B0) ka kn kc) (hgd : (rdK kk).good) (hF : FS B0 fb hb kb f M n ob W) (hf : ∀ t, 0 ≤ f t ∧ f t ≤ Bd) (hfB : ∀ t, ¬ t = ⟨#[]⟩ → (0 < f t ↔ t ∈ B))
    (hcb : W.cell? ⟨cb, 0, none⟩ = some (.pointer (some ⟨db, do_, none⟩))) (hvb : W.cell? ⟨vb, 0, none⟩ = some (.iface 148 (.pointer (some ⟨fb, 0, none⟩)))) (hdb : W.cell? ⟨db, do_ + 5, none⟩ = some (.slice ka kn kc)) (oc : Off fb hb kb ob cb) (ov : Off fb hb kb ob vb) (od : Off fb hb kb ob db) :
    Calls Try.prog 120 #[.pointer (some ⟨cb, 0, none⟩), .pointer (some ⟨vb, 0, none⟩)] W fun e W' => (∃ v, e = .returned v) ∧ FT B0 fb hb kb f (adds M ((rdK kk).occ B B).flatten) (n + 4 * kk.size) ob W W' := by
  have hB0 : B0 ≤ W.heap.size := by have := hF.lo.1; have := hF.fb_lt; omega
  have HCC : Hid (∀ V, Kept (Off fb hb kb ob) W V → V.cell? ⟨vb, 0, none⟩ = some (.iface 148 (.pointer (some ⟨fb, 0, none⟩))) ∧ V.cell? ⟨cb, 0, none⟩ = some (.pointer (some ⟨db, do_, none⟩)) ∧ V.cell? ⟨db, do_ + 5, none⟩ = some (.slice ka kn kc)) := fun V k => ⟨(k.cell (p := ⟨vb, 0, none⟩) (block_lt_of_cell hvb) ov).trans hvb, (k.cell (p := ⟨cb, 0, none⟩) (block_lt_of_cell hcb) oc).trans hcb, (k.cell (p := ⟨db, do_ + 5, none⟩) (block_lt_of_cell hdb) od).trans hdb⟩
  have hkn : kn ≤ 16777216 := by
    have e1 := Fit.len hfit
    rw [rep_len] at e1
    have e2 : (E 3).length = 7 := rfl
    rw [e2] at e1
    have := kk.len_le
    omega
  have HR0 : Hid (Rd E (E 3) kn B0 ka 0 kk W) := Rd.start hfit hsub
  have HF0 := hide hF
  have HGD := hide hgd
  have HFF := hide hf
  have HFB := hide hfB
  have HIH := hide ih
  clear hF hgd hf hfB ih hfit hsub oc ov od
  go_enter Try.func120, Try.ntmps120
  go_wp2_with fail
  go_loopw [9] (fun s9 wr => ∃ (i : Nat) (r : Fo) (Mi : List ByteArray) (ni : Nat) (oi : Option Nat), s9 = .int .i64 i ∧ i ≤ kn ∧ Hid (Rd E (E 3) kn B0 ka i r wr) ∧ Hid (adds Mi ((rdK r).occ B B).flatten = adds M ((rdK kk).occ B B).flatten ∧ (rdK r).good ∧ Mi.length + r.size ≤ 16777216 ∧ ni + 4 * r.size ≤ n + 4 * kk.size ∧ r.size ≤ kk.size ∧ r.wt ≤ 1048576) ∧ Hid (FS B0 fb hb kb f Mi ni oi wr) ∧ Hid (Kept (Off fb hb kb ob) W wr ∧ (oi = ob ∨ ∃ b, oi = some b ∧ W.heap.size ≤ b))) (fun s9 _ => kn - (intOf s9).toNat)
  case atStart => exact ⟨0, kk, M, n, ob, rfl, Nat.zero_le _, HR0, ⟨rfl, HGD.out, by omega, Nat.le_refl _, Nat.le_refl _, hm.2⟩, HF0, Kept.refl _ _, .inl rfl⟩
  case round =>
    clear hcb hvb hdb
    obtain ⟨i, r, Mi, ni, oi, rfl, hin, hRd, hinv, hFS, hKp⟩ := hrel
    by_cases hi : i < kn
    · obtain ⟨x, q, b, o, rfl, hx, rfl, hb', hc, hxs, hR1⟩ := hRd.out.next hi (by decide)
      have hii : (i : Int) < kn := by omega
      obtain ⟨g1, g2, g3, g4, g5, g6⟩ := hinv.out
      rw [occK_app hx, List.flatten_cons, adds_append] at g1
      rw [goodK_app hx] at g2
      rw [Fo.app_size] at g3 g4 g5
      rw [Fo.app_wt] at g6
      have hzw : B0 ≤ wr.heap.size := Nat.le_trans hB0 hKp.out.1.size
      have hok : Nd.Ok wr.drew (fun b => b < B0) ⟨b, o + i * 7, x⟩ := Nd.Ok.kept (A := wr) ⟨hx, hc, hxs, hb'⟩ (Kept.drew (fun _ => True) wr) (fun b hb => ⟨trivial, by omega⟩)
      have HCA : Hid (Calls Try.prog 43 #[.pointer (some ⟨fb, 0, none⟩), .pointer (some ⟨b, o + i * 7, none⟩)] wr.drew fun e W' => (∃ v, e = .returned v) ∧ FT B0 fb hb kb f (adds Mi ((rdK x).occ B B).flatten) (ni + 4 * x.size) oi wr.drew W') :=
        HIH.out B0 fb hb kb f B Mi ni Bd oi ⟨b, o + i * 7, x⟩ wr.drew ⟨by show x.size ≤ m; omega, by show x.wt ≤ _; omega⟩ (by show x.size + _ ≤ _; omega) (by show Bd + x.size ≤ _; omega) (by show ni + 4 * x.size ≤ _; omega) hok g2.1 (hFS.out.kept (Kept.drew (fun _ => True) wr) trivial trivial trivial (fun _ _ => trivial)) HFF.out HFB.out
      have kk0 := HCC.out wr.drew (hKp.out.1.trans (Kept.drew _ _))
      have mel := me_look ⟨fb, 0, none⟩
      have nal := na_look ⟨fb, 0, none⟩
      have HG1 := hide g1
      have HG2 := hide g2.2
      have HX : Hid (x.size + q.size ≤ kk.size ∧ x.wt + q.wt ≤ 1048576) := ⟨g5, g6⟩
      have HY : Hid (Mi.length + (x.size + q.size) ≤ 16777216 ∧ ni + 4 * (x.size + q.size) ≤ n + 4 * kk.size) := ⟨g3, g4⟩
      have HR1 := hide hR1
      have HXO := hide (occ_len (rdK x) B B)
      have HXN : Hid ((rdK x).nodes ≤ x.size) := (nodesK x.size x (Nat.le_refl _)).1
      clear hRd hinv g1 g2 g3 g4 g5 g6 hc hxs hx hR1 hok
      go_wp2_with fail
      go_region_held3 (fun V => V.cell? ⟨vb, 0, none⟩ = some (.iface 148 (.pointer (some ⟨fb, 0, none⟩))) ∧ V.cell? ⟨cb, 0, none⟩ = some (.pointer (some ⟨db, do_, none⟩)) ∧ V.cell? ⟨db, do_ + 5, none⟩ = some (.slice (some ⟨b, o, none⟩) kn kc))
        (first | with_reducible exact kk0 | with_reducible exact kk1)
        (first | (go_at_call 43; refine HCA.out.mono ?_; rintro e w9 ⟨⟨v9, rfl⟩, hT9⟩; have HT9 := hide hT9; have kk1 := HCC.out w9 (hKp.out.1.trans2 ((Kept.drew _ _).trans hT9.kp) (fun b hb2 hx2 => Off.next hx2 hb2 hKp.out.2)); clear hT9) | fail)
      obtain ⟨⟨n1, oj, hn1, ho, hs⟩, hk9⟩ := HT9.out
      have hkw : Kept (Off fb hb kb ob) W w9 := hKp.out.1.trans2 ((Kept.drew _ _).trans hk9) (fun b hb2 hx2 => Off.next hx2 hb2 hKp.out.2)
      have hoj : oj = ob ∨ ∃ b, oj = some b ∧ W.heap.size ≤ b := by
        rcases ho with ho | ⟨b, ho, hb2⟩
        · rw [ho]; exact hKp.out.2
        · exact .inr ⟨b, ho, Nat.le_trans hKp.out.1.size hb2⟩
      have HRn : Hid (Rd E (E 3) kn B0 (some ⟨b, o, none⟩) (i + 1) q w9) := HR1.out.kept ((Kept.drew (Off fb hb kb oi) wr).trans hk9) hzw (fun c hc => hFS.out.off hc)
      have HIn : Hid (adds (adds Mi ((rdK x).occ B B).flatten) ((rdK q).occ B B).flatten = adds M ((rdK kk).occ B B).flatten ∧ (rdK q).good ∧ (adds Mi ((rdK x).occ B B).flatten).length + q.size ≤ 16777216 ∧ n1 + 4 * q.size ≤ n + 4 * kk.size ∧ q.size ≤ kk.size ∧ q.wt ≤ 1048576) := by
        have h1 := adds_len ((rdK x).occ B B).flatten Mi
        have h2 := HXO.out
        have h3 := HXN.out
        obtain ⟨h4, h7⟩ := HX.out
        obtain ⟨h5, h6⟩ := HY.out
        exact ⟨HG1.out, HG2.out, by omega, by omega, by omega, by omega⟩
      have HSn := hide hs
      have HKn : Hid (Kept (Off fb hb kb ob) W w9 ∧ (oj = ob ∨ ∃ b, oj = some b ∧ W.heap.size ≤ b)) := ⟨hkw, hoj⟩
      clear hs hkw hoj ho hk9 hn1 kk0 kk1 mel nal
      go_wp2_with fail
      go_roundw
      case rel => exact ⟨i + 1, q, _, n1, oj, by go_num, by omega, HRn, HIn, HSn, HKn⟩
      case measure => simp [intOf]; omega
    · obtain ⟨rfl, rfl⟩ := hRd.out.done hi
      have hii : ¬ (i : Int) < i := by omega
      obtain ⟨g1, -, -, g4, -⟩ := hinv.out
      rw [rdK_nil] at g1
      have HE : Hid (FT B0 fb hb kb f (adds M ((rdK kk).occ B B).flatten) (n + 4 * kk.size) ob W wr) := by
        refine ⟨⟨ni, oi, by omega, hKp.out.2, ?_⟩, hKp.out.1⟩
        rw [← g1]
        exact hFS.out
      clear g1 g4 hinv hRd
      go_wp2_with fail
      go_end0
      exact ⟨⟨_, rfl⟩, HE.out⟩

end Go.Proofs.Ytmpnbaebdghopaa

namespace Go.Proofs.Ytmpnbaebdghopaa
open Go.RowKit Go.Joins

theorem FS.setf {B0 fb hb kb : Nat} {f g : ByteArray → Int} {M : List ByteArray} {n m : Nat} {ob : Option Nat} {A B : World} (h : FS B0 fb hb kb f M n ob A) (k : Kept (fun b => b ≠ hb) A B) (hm : HM B hb m g) (hnm : n ≤ m) : FS B0 fb hb kb g M m ob B := by
  have hl := h.fb_lt
  obtain ⟨a, cp, e1, e2, e3⟩ := h.c2
  obtain ⟨n1, n2, n3, n4, n5, n6⟩ := h.ne
  exact ⟨(k.cell (p := ⟨fb, 0, none⟩) hl n1).trans h.c0, (k.cell (p := ⟨fb, 1, none⟩) hl n1).trans h.c1, ⟨a, cp, (k.cell (p := ⟨fb, 2, none⟩) hl n1).trans e1, ownsRow_kept e2 k (fun b hb' e => n5 (e3.symm.trans (by rw [hb', e]))), e3⟩, (k.frozen (p := ⟨fb, 2, none⟩) hl n1).trans h.fz, hm, (h.km.kept k (fun e => n3 e.symm)).mono hnm, h.ne, h.lo⟩

theorem incF_mem {f : ByteArray → Int} {B L : List ByteArray} (h0 : ∀ t, 0 ≤ f t) (h : ∀ t, ¬ t = ⟨#[]⟩ → (0 < f t ↔ t ∈ B)) : ∀ t, ¬ t = ⟨#[]⟩ → (0 < incF f L t ↔ t ∈ B ++ L) := fun t ht => by
  have h1 := h t ht
  have h2 := cntN_mem t L
  have h3 := h0 t
  unfold incF
  rw [List.mem_append, ← h1, ← h2]
  omega

theorem incF_bd {f : ByteArray → Int} {Bd : Nat} (L : List ByteArray) (h0 : ∀ t, 0 ≤ f t ∧ f t ≤ Bd) : ∀ t, 0 ≤ incF f L t ∧ incF f L t ≤ ((Bd + L.length : Nat) : Int) := fun t => by
  have h1 := h0 t
  have h2 := cntN_le t L
  unfold incF
  omega

/-- inReach of the finder, around a closure that goes on. -/
theorem reach_fs (g : Nat) (cap : Array Value) (heg : ∀ args w, (callFunc g args).run Try.prog w = .ok (.enter g args) w) (B0 fb hb kb : Nat) (f : ByteArray → Int) (M M' : List ByteArray) (n N Bd : Nat) (ob : Option Nat) (a : Option Addr) (c : Nat) (L : List ByteArray) (W : World) (hF : FS B0 fb hb kb f M n ob W) (hf : ∀ t, 0 ≤ f t ∧ f t ≤ Bd)
    (hB : Bd ≤ 1099511627776 ∧ L.length ≤ 16777216 ∧ n ≤ 1099511627776 ∧ N ≤ 1099511627776) (hs : SR W (fun b => Off fb hb kb ob b ∧ b < W.heap.size) a c L) (hsz : ∀ x ∈ L, x.size ≤ maxLen)
    (hgo : ∀ W1, Kept (fun b => b ≠ hb) W W1 → FS B0 fb hb kb (incF f L) M (n + L.length) ob W1 → Calls Try.prog g cap W1 (fun e W2 => (∃ v, e = .returned v) ∧ FT B0 fb hb kb (incF f L) M' N ob W1 W2)) :
    Calls Try.prog 145 #[.pointer (some ⟨fb, 0, none⟩), .slice a L.length c, .func (.func g) #[] cap] W (fun e W3 => (∃ v, e = .returned v) ∧ FT B0 fb hb kb f M' (N + L.length) ob W W3) := by
  refine (i_reach g cap heg fb hb hF.ne.1 a c L W f n N Bd hF.hm hf hB hF.c0 ⟨hs.le, hs.mx, fun hl => ?_⟩ hsz
    (fun W2 => Kept (Off fb hb kb ob) W W2 ∧ ∃ n1 ob', n1 ≤ N ∧ (ob' = ob ∨ ∃ b, ob' = some b ∧ W.heap.size ≤ b) ∧ FS B0 fb hb kb (incF f L) M' n1 ob' W2) (fun W1 hk hm => ?_) (fun W2 hP => ?_)).mono ?_
  · obtain ⟨b, o, e, ⟨h1, h2⟩, h3⟩ := hs.at_ hl
    exact ⟨b, o, e, ⟨h1.2.1, h2⟩, h3⟩
  · refine (hgo W1 hk (hF.setf hk hm (Nat.le_add_right _ _))).mono ?_
    rintro e W2 ⟨hv, ⟨n1, ob', hn1, ho, hs2⟩, hk2⟩
    refine ⟨hv, (hk.mono (fun b _ hb' => hb'.2.1)).trans hk2, n1, ob', hn1, ?_, hs2⟩
    rcases ho with ho | ⟨b, ho, hb'⟩
    · exact .inl ho
    · exact .inr ⟨b, ho, Nat.le_trans hk.size hb'⟩
  · obtain ⟨hk, n1, ob', hn1, ho, hs2⟩ := hP
    refine ⟨hs2.hm.mono hn1, hs2.c0, ⟨hs.le, hs.mx, fun hl => ?_⟩⟩
    obtain ⟨b, o, e, ⟨h1, h2⟩, h3⟩ := hs.at_ hl
    exact ⟨b, o, e, ⟨h1.2.1, Nat.lt_of_lt_of_le h2 hk.size⟩, fun i x hx => (hk.cell (p := ⟨b, o + i, none⟩) h2 h1).trans (h3 i x hx)⟩
  · rintro e W3 ⟨hv, W2, ⟨hk, n1, ob', hn1, ho, hs2⟩, hk3, hm3⟩
    refine ⟨hv, ⟨N + L.length, ob', Nat.le_refl _, ho, hs2.setf hk3 hm3 (by omega)⟩, hk.trans (hk3.mono (fun b _ hb' => hb'.2.1))⟩

end Go.Proofs.Ytmpnbaebdghopaa

namespace Go.Proofs.Ytmpnbaebdghopaa
open Go.RowKit Go.Joins

theorem FT.start {B0 fb hb kb : Nat} {f : ByteArray → Int} {M' : List ByteArray} {n' : Nat} {ob : Option Nat} {A B C : World} (k : Below A.heap.size A B) (h : FT B0 fb hb kb f M' n' ob B C) : FT B0 fb hb kb f M' n' ob A C := by
  obtain ⟨⟨n1, ob', hn1, ho, hs⟩, hk⟩ := h
  refine ⟨⟨n1, ob', hn1, ?_, hs⟩, (kt (S := Off fb hb kb ob) k).trans hk⟩
  rcases ho with ho | ⟨b, ho, hb'⟩
  · exact .inl ho
  · exact .inr ⟨b, ho, Nat.le_trans k.size hb'⟩

set_option maxHeartbeats 2000000 in
set_option maxRecDepth 100000 in
/-- goThrough of all kinds but one. -/
theorem go_117 (m : Nat) (ih : LkC m) (B0 fb hb kb db do_ : Nat) (f : ByteArray → Int) (B M ns : List ByteArray) (n Bd : Nat) (ob : Option Nat) (na ka : Option Addr) (nc kn kc : Nat) (kk : Fo) (W : World) (hm : kk.size ≤ m ∧ kk.wt ≤ 1048576) (hM : kk.size + M.length ≤ 16777216) (hBd : Bd + ns.length + kk.size ≤ 1099511627776) (hn : n + ns.length + 4 * kk.size ≤ 1099511627776) (hnl : ns.length ≤ 16777216)
    (hfit : Fit E kk (rep (E 3) kn)) (hsub : kk.Sub W (fun b => b < B0) ka kn kc) (hgd : (rdK kk).good) (hF : FS B0 fb hb kb f M n ob W) (hf : ∀ t, 0 ≤ f t ∧ f t ≤ Bd) (hfB : ∀ t, ¬ t = ⟨#[]⟩ → (0 < f t ↔ t ∈ B))
    (hs : SR W (fun b => b < B0) na nc ns) (hsz : ∀ x ∈ ns, x.size ≤ maxLen) (h4 : W.cell? ⟨db, do_ + 4, none⟩ = some (.slice na ns.length nc)) (h5 : W.cell? ⟨db, do_ + 5, none⟩ = some (.slice ka kn kc)) (hdb : db < B0) :
    Calls Try.prog 117 #[.agg #[.pointer (some ⟨db, do_, none⟩)], .iface 148 (.pointer (some ⟨fb, 0, none⟩))] W fun e W' => (∃ v, e = .returned v) ∧ FT B0 fb hb kb f (adds M ((rdK kk).occ (B ++ ns) (B ++ ns)).flatten) (n + ns.length + 4 * kk.size + ns.length) ob W W' := by
  have hB0 : B0 ≤ W.heap.size := by have := hF.lo.1; have := hF.fb_lt; omega
  have hlh : hb < W.heap.size := hF.hm.lt
  have hlk : kb < W.heap.size := hF.km.lt
  have hlf := hF.fb_lt
  have hlo : ∀ b, ob = some b → b < W.heap.size := fun b e => (hF.ob_lt b e).2
  have k2 : Below W.heap.size W ((W.alloc (.cells #[.pointer (some ⟨db, do_, none⟩)] 121)).alloc (.cells #[.iface 148 (.pointer (some ⟨fb, 0, none⟩))] 209)).drew := (below_alloc2 W _ _).drew
  obtain ⟨V, hV⟩ : ∃ V, ((W.alloc (.cells #[.pointer (some ⟨db, do_, none⟩)] 121)).alloc (.cells #[.iface 148 (.pointer (some ⟨fb, 0, none⟩))] 209)).drew = V := ⟨_, rfl⟩
  have zV : V.heap.size = W.heap.size + 2 := by rw [← hV]; simp
  have vc : V.cell? ⟨W.heap.size, 0, none⟩ = some (.pointer (some ⟨db, do_, none⟩)) := by
    rw [← hV]
    have k := (below_alloc1 (W.alloc (.cells #[.pointer (some ⟨db, do_, none⟩)] 121)) (.cells #[.iface 148 (.pointer (some ⟨fb, 0, none⟩))] 209)).drew
    exact (k.cell (p := ⟨W.heap.size, 0, none⟩) (by simp)).trans (by simp)
  have vv : V.cell? ⟨W.heap.size + 1, 0, none⟩ = some (.iface 148 (.pointer (some ⟨fb, 0, none⟩))) := by
    rw [← hV]
    have e : W.heap.size + 1 = (W.alloc (.cells #[.pointer (some ⟨db, do_, none⟩)] 121)).heap.size := by simp
    rw [e]
    simp
  rw [hV] at k2
  have v4 := (k2.cell (p := ⟨db, do_ + 4, none⟩) (by show db < _; omega)).trans h4
  have v5 := (k2.cell (p := ⟨db, do_ + 5, none⟩) (by show db < _; omega)).trans h5
  have hFV := hF.below k2
  have hCA : Calls Try.prog 145 #[.pointer (some ⟨fb, 0, none⟩), .slice na ns.length nc, .func (.func 120) #[] #[.pointer (some ⟨W.heap.size, 0, none⟩), .pointer (some ⟨W.heap.size + 1, 0, none⟩)]] V (fun e W3 => (∃ v, e = .returned v) ∧ FT B0 fb hb kb f (adds M ((rdK kk).occ (B ++ ns) (B ++ ns)).flatten) (n + ns.length + 4 * kk.size + ns.length) ob V W3) := by
    refine reach_fs 120 _ (enters_of Try.func120 (by kernel_rfl) rfl) B0 fb hb kb f M _ n (n + ns.length + 4 * kk.size) Bd ob na nc ns V hFV hf ⟨by omega, hnl, by omega, by omega⟩ ?_ hsz (fun Wx hk hFx => ?_)
    · have h := hs.below k2 (fun b hb' => by omega)
      exact ⟨h.le, h.mx, fun hl => by obtain ⟨b, o, e, s, c⟩ := h.at_ hl; exact ⟨b, o, e, ⟨hF.off s, by omega⟩, c⟩⟩
    · refine go_120 m ih B0 fb hb kb W.heap.size (W.heap.size + 1) db do_ (incF f ns) (B ++ ns) M (n + ns.length) (Bd + ns.length) ob ka kn kc kk Wx hm hM (by omega) (by omega) hfit ?_ hgd hFx (incF_bd ns hf) (incF_mem (fun t => (hf t).1) hfB) ?_ ?_ ?_ ?_ ?_ ?_
      · exact (hsub.below k2 (fun b hb' => by omega)).kept hk (fun b hb' => ⟨by have := hF.lo.2.1; show b ≠ hb; omega, by omega⟩)
      · exact (hk.cell (p := ⟨W.heap.size, 0, none⟩) (by show W.heap.size < _; omega) (by show W.heap.size ≠ hb; omega)).trans vc
      · exact (hk.cell (p := ⟨W.heap.size + 1, 0, none⟩) (by show W.heap.size + 1 < _; omega) (by show W.heap.size + 1 ≠ hb; omega)).trans vv
      · exact (hk.cell (p := ⟨db, do_ + 5, none⟩) (by show db < _; omega) (by have := hF.lo.2.1; show db ≠ hb; omega)).trans v5
      · exact ⟨by omega, by omega, by omega, fun e => by have := hlo _ e; omega⟩
      · exact ⟨by omega, by omega, by omega, fun e => by have := hlo _ e; omega⟩
      · exact hF.off hdb
  have HCA := hide hCA
  have HK2 := hide k2
  have kk0 : V.cell? ⟨W.heap.size + 1, 0, none⟩ = some (.iface 148 (.pointer (some ⟨fb, 0, none⟩))) ∧ V.cell? ⟨W.heap.size, 0, none⟩ = some (.pointer (some ⟨db, do_, none⟩)) ∧ V.cell? ⟨db, do_ + 4, none⟩ = some (.slice na ns.length nc) := ⟨vv, vc, v4⟩
  have HKV : Hid (∀ w9, Kept (Off fb hb kb ob) V w9 → w9.cell? ⟨W.heap.size + 1, 0, none⟩ = some (.iface 148 (.pointer (some ⟨fb, 0, none⟩))) ∧ w9.cell? ⟨W.heap.size, 0, none⟩ = some (.pointer (some ⟨db, do_, none⟩)) ∧ w9.cell? ⟨db, do_ + 4, none⟩ = some (.slice na ns.length nc)) := fun w9 k =>
    ⟨(k.cell (p := ⟨W.heap.size + 1, 0, none⟩) (by show W.heap.size + 1 < _; omega) ⟨by show W.heap.size + 1 ≠ _; omega, by show W.heap.size + 1 ≠ _; omega, by show W.heap.size + 1 ≠ _; omega, fun e => by have := hlo _ e; dsimp only at this; omega⟩).trans vv, (k.cell (p := ⟨W.heap.size, 0, none⟩) (by show W.heap.size < _; omega) ⟨by show W.heap.size ≠ _; omega, by show W.heap.size ≠ _; omega, by show W.heap.size ≠ _; omega, fun e => by have := hlo _ e; dsimp only at this; omega⟩).trans vc, (k.cell (p := ⟨db, do_ + 4, none⟩) (by show db < _; omega) (hF.off hdb)).trans v4⟩
  have mel := me_reach ⟨fb, 0, none⟩
  have nal := na_reach ⟨fb, 0, none⟩
  obtain ⟨l, hl⟩ : ∃ l, l = ns.length := ⟨_, rfl⟩
  rw [← hl] at HCA kk0 HKV hnl ⊢
  clear hCA k2 vc vv v4 v5 hFV zV hF hs hsz hfB hf hgd hsub hfit h4 h5 hlo hlh hlk hlf ih hl hn hBd hM
  subst hV
  go_enter Try.func117, Try.ntmps117
  go_upto_region 1 with fail
  go_region_held3 (fun V => V.cell? ⟨W.heap.size + 1, 0, none⟩ = some (.iface 148 (.pointer (some ⟨fb, 0, none⟩))) ∧ V.cell? ⟨W.heap.size, 0, none⟩ = some (.pointer (some ⟨db, do_, none⟩)) ∧ V.cell? ⟨db, do_ + 4, none⟩ = some (.slice na l nc))
    (first | with_reducible exact kk0 | with_reducible exact kk1)
    (first | (go_at_call 145; refine HCA.out.mono ?_; rintro e w9 ⟨⟨v9, rfl⟩, hT9⟩; have HT9 := hide hT9; have kk1 := HKV.out w9 hT9.kp; clear hT9) | fail)
  all_goals
    go_end0
    exact ⟨⟨_, rfl⟩, HT9.out.start HK2.out⟩

end Go.Proofs.Ytmpnbaebdghopaa

namespace Go.Proofs.Ytmpnbaebdghopaa
open Go.RowKit Go.Joins

set_option maxHeartbeats 2000000 in
set_option maxRecDepth 100000 in
/-- An alternative's body. -/
theorem go_140 (m : Nat) (ih : LkC m) (B0 fb hb kb vb ab b o : Nat) (f : ByteArray → Int) (B M : List ByteArray) (n Bd : Nat) (ob : Option Nat) (y : Fo) (W : World) (hm : y.size ≤ m ∧ y.wt ≤ 1048576) (hM : y.size + M.length ≤ 16777216) (hBd : Bd + y.size ≤ 1099511627776) (hn : n + 4 * y.size ≤ 1099511627776)
    (hok : Nd.Ok W (fun b => b < B0) ⟨b, o + 2, y⟩) (hgd : (rdK y).good) (hF : FS B0 fb hb kb f M n ob W) (hf : ∀ t, 0 ≤ f t ∧ f t ≤ Bd) (hfB : ∀ t, ¬ t = ⟨#[]⟩ → (0 < f t ↔ t ∈ B))
    (hvb : W.cell? ⟨vb, 0, none⟩ = some (.iface 148 (.pointer (some ⟨fb, 0, none⟩)))) (hab : W.cell? ⟨ab, 0, none⟩ = some (.pointer (some ⟨b, o, none⟩))) (ov : Off fb hb kb ob vb) (oa : Off fb hb kb ob ab) :
    Calls Try.prog 140 #[.pointer (some ⟨vb, 0, none⟩), .pointer (some ⟨ab, 0, none⟩)] W fun e W' => (∃ v, e = .returned v) ∧ FT B0 fb hb kb f (adds M ((rdK y).occ B B).flatten) (n + 4 * y.size) ob W W' := by
  have hB0 : B0 ≤ W.heap.size := by have := hF.lo.1; have := hF.fb_lt; omega
  have kd : Below W.heap.size W W.drew := (Below.refl _ _).drew
  have hok2 : Nd.Ok W.drew (fun b => b < B0) ⟨b, o + 2, y⟩ := Nd.Ok.kept (A := W) hok (Kept.drew (fun _ => True) W) (fun b hb => ⟨trivial, by omega⟩)
  have hCA := ih B0 fb hb kb f B M n Bd ob ⟨b, o + 2, y⟩ W.drew hm hM hBd hn hok2 hgd (hF.below kd) hf hfB
  simp only [Nd.ptr] at hCA
  have HCA := hide hCA
  have HCC : Hid (∀ V, Kept (Off fb hb kb ob) W.drew V → V.cell? ⟨vb, 0, none⟩ = some (.iface 148 (.pointer (some ⟨fb, 0, none⟩))) ∧ V.cell? ⟨ab, 0, none⟩ = some (.pointer (some ⟨b, o, none⟩))) := fun V k => ⟨(k.cell (p := ⟨vb, 0, none⟩) (block_lt_of_cell hvb) ov).trans hvb, (k.cell (p := ⟨ab, 0, none⟩) (block_lt_of_cell hab) oa).trans hab⟩
  have kk0 := HCC.out W.drew (Kept.refl _ _)
  have mel := me_look ⟨fb, 0, none⟩
  have nal := na_look ⟨fb, 0, none⟩
  have HKD := hide kd
  clear hCA hok hok2 hgd hF hf hfB hvb hab ov oa ih hm hM hBd hn kd
  go_enter Try.func140, Try.ntmps140
  go_upto_region 0 with fail
  go_region_held3 (fun V => V.cell? ⟨vb, 0, none⟩ = some (.iface 148 (.pointer (some ⟨fb, 0, none⟩))) ∧ V.cell? ⟨ab, 0, none⟩ = some (.pointer (some ⟨b, o, none⟩)))
    (first | with_reducible exact kk0 | with_reducible exact kk1)
    (first | (go_at_call 43; refine HCA.out.mono ?_; rintro e w9 ⟨⟨v9, rfl⟩, hT9⟩; have HT9 := hide hT9; have kk1 := HCC.out w9 hT9.kp; clear hT9) | fail)
  all_goals
    go_end0
    exact ⟨⟨_, rfl⟩, HT9.out.start HKD.out⟩

end Go.Proofs.Ytmpnbaebdghopaa
