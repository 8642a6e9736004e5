import Derived.Test.YtmfngmkhdppnjaaMd
import Derived.Maps.Views
import Derived.Maps.OwnSet
import Derived.Maps.OwnIn
namespace Go.Proofs.Ytmfngmkhdppnjaa
open Go.RowKit Go.Joins

/-! The map of places. -/

def HV (v : Value) : Option (DataW Value × List MemPlace) := some (.held v, [])

def lkv (N : List ByteArray) (t : ByteArray) : Value := .int .i64 (((atN N t).getD 0 : Nat) : Int)

def PM (w : World) (M n : Nat) (N : List ByteArray) : Prop :=
  ∃ D : DataW Value, w.ownsMap Try.prog 9 HV M n D ∧ ∀ t : ByteArray, Maps.has D (.string t.data.toList) = (atN N t).isSome ∧ D.atKey (.string t.data.toList) (.held (.int .i64 0)) = .held (lkv N t)

theorem PM.lt {w : World} {M n : Nat} {N : List ByteArray} (h : PM w M n N) : M < w.heap.size := by
  obtain ⟨D, hD, -⟩ := h
  exact hD.lt

theorem PM.keep {w w' : World} {M n : Nat} {N : List ByteArray} (h : PM w M n N) (hb : w'.heap[M]? = w.heap[M]?) : PM w' M n N := by
  obtain ⟨D, ⟨es, c, h1, h2⟩, h3⟩ := h
  exact ⟨D, ⟨es, c, hb.trans h1, h2⟩, h3⟩

theorem PM.start (w : World) : PM (w.alloc (.map #[] 0)) w.heap.size 0 [] :=
  ⟨.map [], World.ownsMap_made w _ _ _, fun t => ⟨by simp [Maps.has, atN], by simp [DataW.atKey, lkv, atN]⟩⟩

theorem zero2 (w : World) : (zeroValue 2).run Try.prog w = .ok (.int .i64 0) w := by kernel_rfl

theorem PM.look {w : World} {M n : Nat} {N : List ByteArray} (h : PM w M n N) (t : ByteArray) (ht : t.size ≤ maxLen) :
    (Instr.lookup 51 (.map (some M)) (.string t) true).run Try.prog w = .ok (.tuple #[lkv N t, .bool (atN N t).isSome]) w := by
  obtain ⟨D, hD, hat⟩ := h
  obtain ⟨v, ps, hrun, hv⟩ := hD.look_ok (Maps.string_keyed Try.underlying9) Try.underlying51 (zero2 w) (zd := .held (.int .i64 0)) (zp := []) rfl (WideMaps.keyOf_string_mk Try.underlying9 ht)
  rw [hrun, (hat t).1]
  rw [(hat t).2] at hv
  simp only [HV, Option.some.injEq, Prod.mk.injEq, DataW.held.injEq] at hv
  rw [hv.1]

theorem PM.put {w' : World} {M n : Nat} {N : List ByteArray} {D : DataW Value} {x : ByteArray} (hI : Maps.IsMap D)
    (hat : ∀ t : ByteArray, Maps.has D (.string t.data.toList) = (atN N t).isSome ∧ D.atKey (.string t.data.toList) (.held (.int .i64 0)) = .held (lkv N t)) (hx : atN N x = none)
    (ho : w'.ownsMap Try.prog 9 HV M n (D.put (.string x.data.toList) (.held (.int .i64 (N.length : Int))))) : PM w' M n (N ++ [x]) := by
  refine ⟨_, ho, fun t => ?_⟩
  unfold lkv
  rw [atN_app]
  by_cases e : x = t
  · subst e
    rw [Maps.has_put_same hI (k := .string x.data.toList) trivial, Maps.atKey_put_same hI (k := .string x.data.toList) trivial, hx]
    simp
  · have hne : (Lit.string t.data.toList) ≠ .string x.data.toList := fun h => by
      injection h with h
      exact e (ByteArray.ext (Array.ext' h.symm))
    rw [Maps.has_put_other hne, Maps.atKey_put_other hne, (hat t).1, (hat t).2]
    simp [e, lkv]

/-! Rows of nodes of their own. -/

def Nd.cells (d : Nd) : List Value := [.int .i64 d.k, .string d.nm, .slice d.a d.ks.len d.cap]
def NR (B : Nat) (w : World) (v : Value) (K : List Nd) : Prop := w.ownsRow B 37 3 v K.length (K.flatMap Nd.cells)

theorem flat_get : ∀ (K : List Nd) (q : Nat) (d : Nd), K[q]? = some d → (K.flatMap Nd.cells)[q * 3]? = some (.int .i64 d.k) ∧ (K.flatMap Nd.cells)[q * 3 + 1]? = some (.string d.nm) ∧ (K.flatMap Nd.cells)[q * 3 + 2]? = some (.slice d.a d.ks.len d.cap)
  | [], q, d, h => by simp at h
  | x :: K, 0, d, h => by
    simp only [List.getElem?_cons_zero, Option.some.injEq] at h
    subst h
    simp [Nd.cells]
  | x :: K, q + 1, d, h => by
    simp only [List.getElem?_cons_succ] at h
    have := flat_get K q d h
    simp only [List.flatMap_cons, Nd.cells, List.cons_append, List.nil_append]
    rw [show (q + 1) * 3 = q * 3 + 3 by omega, show q * 3 + 3 + 1 = q * 3 + 1 + 3 by omega, show q * 3 + 3 + 2 = q * 3 + 2 + 3 by omega]
    simp only [List.getElem?_cons_succ]
    exact this

theorem NR.cells {B : Nat} {w : World} {b n cap : Nat} {K : List Nd} (h : NR B w (.slice (some ⟨b, 0, none⟩) n cap) K) (hn : n = K.length) (q : Nat) (d : Nd) (hq : K[q]? = some d) :
    w.cell? ⟨b, q * 3, none⟩ = some (.int .i64 d.k) ∧ w.cell? ⟨b, q * 3 + 1, none⟩ = some (.string d.nm) ∧ w.cell? ⟨b, q * 3 + 2, none⟩ = some (.slice d.a d.ks.len d.cap) := by
  subst hn
  have hlt : q < K.length := (List.getElem?_eq_some_iff.1 hq).1
  obtain ⟨h0, h1, h2⟩ := flat_get K q d hq
  have e0 := World.ownsRow.cellAt h (q * 3) (by omega)
  have e1 := World.ownsRow.cellAt h (q * 3 + 1) (by omega)
  have e2 := World.ownsRow.cellAt h (q * 3 + 2) (by omega)
  exact ⟨e0.trans h0, e1.trans h1, e2.trans h2⟩

theorem NR.kept {B : Nat} {w w' : World} {v : Value} {L : List Nd} (h : NR B w v L) {S : Nat → Prop} (k : Kept S w w') (hS : ∀ c, v.ownBlock = some c → S c) : NR B w' v L := by
  obtain ⟨h1, h2⟩ := h
  refine ⟨h1, ?_⟩
  rcases h2 with h2 | ⟨b, cap, cur, rfl, hb, hg, rest⟩
  · exact .inl h2
  · refine .inr ⟨b, cap, cur, rfl, hb, ?_, rest⟩
    have hlt : b < w.heap.size := (Array.getElem?_eq_some_iff.1 hg).1
    rw [k.block b hlt (hS b rfl)]
    exact hg
theorem NR.nil (B : Nat) (w : World) : NR B w (.slice none 0 0) [] := ⟨rfl, .inl ⟨rfl, rfl⟩⟩
theorem NR.sl {B : Nat} {w : World} {v : Value} {L : List Nd} (h : NR B w v L) : ∃ a cap, v = .slice a L.length cap ∧ L.length ≤ cap := by
  rcases h.2 with ⟨rfl, h0⟩ | ⟨b, cap, cur, rfl, _, _, hc, _⟩
  · exact ⟨none, 0, by rw [h0], by omega⟩
  · exact ⟨_, cap, rfl, hc⟩
theorem NR.form {B : Nat} {w : World} {v : Value} {L : List Nd} (h : NR B w v L) (h0 : 0 < L.length) : ∃ b cap, v = .slice (some ⟨b, 0, none⟩) L.length cap := by
  rcases h.2 with ⟨rfl, h0'⟩ | ⟨b, cap, cur, rfl, _, _, hc, _⟩
  · omega
  · exact ⟨b, cap, rfl⟩

theorem run_nr (B : Nat) (W : World) (ty : TypeId) (v : Value) (L : List Nd) (d : Nd) (hb : Nat) (hown : NR B W v L) (hx : ∀ j u, d.cells[j]? = some u → W.cell? ((⟨hb, 0, none⟩ : Addr).add j) = some u) (hl : L.length ≤ 1048576) (hB : B ≤ W.heap.size) :
    ∃ b cap W', (Builtin.append_ #[26, 26] ty #[v, .slice (some ⟨hb, 0, none⟩) 1 1]).run Try.prog W = .ok (.slice (some ⟨b, 0, none⟩) (L.length + 1) cap) W' ∧ NR B W' (.slice (some ⟨b, 0, none⟩) (L.length + 1) cap) (L ++ [d]) ∧ W.grownBy W' v.ownBlock := by
  obtain ⟨i0, hi, hz0, hz1, hz2⟩ := info_parts Try.info37
  obtain ⟨b, cap, W', h1, h2, h3, h4, h5⟩ := run_append_lies (P := Try.prog) W 26 ty B 37 i0 (.agg #[.int .i64 0, .string ⟨#[]⟩, .slice none 0 0]) 3 48 Try.underlying26 hi hz0 hz1 hz2 rfl (by decide) v L.length _ hown ⟨hb, 0, none⟩ 1 1 d.cells rfl hx
    (fun u hu => by
      simp only [Nd.cells, List.mem_cons, List.not_mem_nil, or_false] at hu
      rcases hu with rfl | rfl | rfl <;> rfl) (by decide) (by unfold maxLen; omega) (by omega) hB W.heap.size rfl
  refine ⟨b, cap, W', h1, ?_, h3⟩
  unfold NR
  rw [List.flatMap_append, List.length_append]
  simpa using h2

theorem nr_step {ops : Array Oper} {rest : List Oper} {o : Oper} {a : Act} {Q : Exit → Act → World → Prop} (hgd : o.guard = none) (s x : Operand)
    (ho : o.op = .call { callee := .builtin .append, args := #[s, x], argTypes := #[26, 26] })
    (B : Nat) (W : World) (v : Value) (L : List Nd) (d : Nd) (hb : Nat) (hs : a.eval s = v) (hx : a.eval x = .slice (some ⟨hb, 0, none⟩) 1 1) (hB : B ≤ W.heap.size) (hown : NR B W v L) (hk : ∀ j u, d.cells[j]? = some u → W.cell? ((⟨hb, 0, none⟩ : Addr).add j) = some u) (hl : L.length ≤ 1048576)
    (h : ∀ b cap W', NR B W' (.slice (some ⟨b, 0, none⟩) (L.length + 1) cap) (L ++ [d]) → W.grownBy W' v.ownBlock → wpList Try.prog ops Q rest (a.put o.dst (.slice (some ⟨b, 0, none⟩) (L.length + 1) cap)) W') : wpList Try.prog ops Q (o :: rest) a W := by
  refine wpList_plain hgd fun K hK => ?_
  obtain ⟨b, cap, w', hr, h2, h3⟩ := run_nr B W o.type v L d hb hown hk hl hB
  unfold Oper.wp execOp
  simp only [ho, resolve, invoke, builtin, Sem.run_bind, Sem.run_pure, Result.andThen_ok, List.map_toArray, List.map_cons, List.map_nil, hs, hx, hr]
  exact hK _ _ (h b cap w' h2 h3)

theorem new3 (W : World) (x y z : Value) (t : TypeId) (d : Nd) (hd : d.cells = [x, y, z]) : ∀ j u, d.cells[j]? = some u → (W.alloc (.cells #[x, y, z] t)).cell? ((⟨W.heap.size, 0, none⟩ : Addr).add j) = some u := fun j u h => by
  rw [hd] at h
  rw [addr_add, Nat.zero_add]
  have q := Box3.new W x y z t
  match j, h with
  | 0, h => simp only [List.getElem?_cons_zero, Option.some.injEq] at h; subst h; exact q.c0
  | 1, h => simp only [List.getElem?_cons_succ, List.getElem?_cons_zero, Option.some.injEq] at h; subst h; exact q.c1
  | 2, h => simp only [List.getElem?_cons_succ, List.getElem?_cons_zero, Option.some.injEq] at h; subst h; exact q.c2
  | j + 3, h => simp at h

def isIm (d : Nd) : Bool := decide (d.k = 67)

set_option maxHeartbeats 1000000 in
set_option maxRecDepth 100000 in
theorem importsOf_any (d : Nd) (S : Nat → Prop) (w : World) (hS : ∀ c, S c → c < w.heap.size) (hs : d.ks.Sl w S d.a d.cap) (hl : d.ks.len ≤ 1048576) :
    Calls Try.prog 20 #[nodeV d.k d.nm d.a d.ks.len d.cap] w fun e w' => ∃ v, e = .returned v ∧ NR w.heap.size w' v (d.ks.l.filter isIm) ∧ Below w.heap.size w w' := by
  obtain ⟨dk, dn, da, dc, ks⟩ := d
  simp only at hs hl ⊢
  unfold nodeV
  have b0 := below_alloc1 w (.cells #[.int .i64 dk, .string dn, .slice da ks.len dc] 37)
  have q0 := Box3.new w (.int .i64 dk) (.string dn) (.slice da ks.len dc) 37
  have z0 : (w.alloc (.cells #[.int .i64 dk, .string dn, .slice da ks.len dc] 37)).heap.size = w.heap.size + 1 := by simp
  have hc2 := q0.c2
  have HZ0 := hide z0
  go_enter Try.func20, Try.ntmps20
  go_wp2_with fail
  generalize w.alloc (.cells #[.int .i64 dk, .string dn, .slice da ks.len dc] 37) = w0 at *
  have HS := hide hs
  have HSS := hide hS
  clear hs q0 z0 hS hc2
  go_loopw [3, 9] (fun s3 s9 wr => ∃ i : Nat, s9 = .int .i64 i ∧ i ≤ ks.len ∧ Hid (NR w.heap.size wr s3 ((ks.l.take i).filter isIm)) ∧ Hid (Below w.heap.size w wr)) (fun _ s9 _ => ks.len - (intOf s9).toNat)
  case atStart => exact ⟨0, rfl, Nat.zero_le _, NR.nil _ _, b0⟩
  case round =>
    clear b0 HZ0
    obtain ⟨i, rfl, hi, HN, HB⟩ := hrel
    by_cases hlt : i < ks.len
    · have hlt' : (i : Int) < ks.len := by omega
      obtain ⟨x, hx⟩ : ∃ x, ks.l[i]? = some x := ⟨ks.l[i]'(by rw [Fo.l_length]; exact hlt), by simp [Fo.l_length, hlt]⟩
      obtain ⟨b, o, rfl, hb, hrow⟩ := HS.out.2.2 (by omega)
      have hat := (hrow.below HB.out HSS.out (HSS.out b hb)).get i x hx
      have c0 := hat.c0
      have c1 := hat.c1
      have c2 := hat.c2
      have ba := below_alloc1 wr (.cells #[.int .i64 x.k, .string x.nm, .slice x.a x.ks.len x.cap] 37)
      have q1 := Box3.new wr (.int .i64 x.k) (.string x.nm) (.slice x.a x.ks.len x.cap) 37
      have hzw := HB.out.size
      have hlen : Hid (((ks.l.take i).filter isIm).length ≤ 1048576) := by
        have h1 := List.length_filter_le isIm (ks.l.take i)
        have h2 : (ks.l.take i).length ≤ i := by simp; omega
        unfold Hid
        omega
      obtain ⟨a3, p3, e3, -⟩ := HN.out.sl
      have HE3 := hide e3
      have hB1 : Hid (Below w.heap.size w (wr.alloc (.cells #[.int .i64 x.k, .string x.nm, .slice x.a x.ks.len x.cap] 37))) := HB.out.trans (ba.mono hzw)
      have HN1 : Hid (NR w.heap.size (wr.alloc (.cells #[.int .i64 x.k, .string x.nm, .slice x.a x.ks.len x.cap] 37)) u3 ((ks.l.take i).filter isIm)) := HN.out.kept (Kept.alloc (fun _ => True) _ _) (fun _ _ => trivial)
      have z1 : (wr.alloc (.cells #[.int .i64 x.k, .string x.nm, .slice x.a x.ks.len x.cap] 37)).heap.size = wr.heap.size + 1 := by simp
      have HZ1 := hide z1
      have HX := hide hx
      clear e3 z1 hx hat
      obtain ⟨-, d0, d1, d2, f0, f1, f2⟩ := id q1
      by_cases hk : x.k = 67
      · have hk' : (x.k == 67) = true := by simp [hk]
        have HKK := hide hk
        clear hk
        have HNEW : Hid (∀ j u, x.cells[j]? = some u → ((wr.alloc (.cells #[.int .i64 x.k, .string x.nm, .slice x.a x.ks.len x.cap] 37)).alloc (.cells #[.int .i64 x.k, .string x.nm, .slice x.a x.ks.len x.cap] 37)).cell? ((⟨wr.heap.size + 1, 0, none⟩ : Addr).add j) = some u) := by
          have h1 := new3 (wr.alloc (.cells #[.int .i64 x.k, .string x.nm, .slice x.a x.ks.len x.cap] 37)) _ _ _ 37 x rfl
          rw [World.size_alloc] at h1
          exact h1
        have HN2 : Hid (NR w.heap.size ((wr.alloc (.cells #[.int .i64 x.k, .string x.nm, .slice x.a x.ks.len x.cap] 37)).alloc (.cells #[.int .i64 x.k, .string x.nm, .slice x.a x.ks.len x.cap] 37)) u3 ((ks.l.take i).filter isIm)) := HN1.out.kept (Kept.alloc (fun _ => True) _ _) (fun _ _ => trivial)
        have hB2 : Hid (Below w.heap.size w ((wr.alloc (.cells #[.int .i64 x.k, .string x.nm, .slice x.a x.ks.len x.cap] 37)).alloc (.cells #[.int .i64 x.k, .string x.nm, .slice x.a x.ks.len x.cap] 37))) := hB1.out.alloc (by simp; omega) _
        have ztwo : w.heap.size ≤ ((wr.alloc (.cells #[.int .i64 x.k, .string x.nm, .slice x.a x.ks.len x.cap] 37)).alloc (.cells #[.int .i64 x.k, .string x.nm, .slice x.a x.ks.len x.cap] 37)).heap.size := by simp; omega
        have HZZ := hide ztwo
        have HFL : Hid ((ks.l.take (i + 1)).filter isIm = (ks.l.take i).filter isIm ++ [x]) := by
          unfold Hid
          rw [List.take_add_one, HX.out, List.filter_append]
          simp [isIm, HKK.out]
        clear ztwo
        go_wp2_with (at_builtin; refine nr_step rfl _ _ rfl w.heap.size _ u3 ((ks.l.take i).filter isIm) x (wr.heap.size + 1) rfl rfl HZZ.out HN2.out HNEW.out hlen.out ?_; intro b6 cap6 w6 hR6 hg6)
        go_roundw
        case rel =>
          refine ⟨i + 1, by go_num, by omega, ?_, ?_⟩
          · unfold Hid
            rw [HFL.out]
            exact hR6
          · exact hB2.out.grown hg6 HZZ.out (fun k hk => (World.ownsRow.lt HN.out k hk).1)
        case measure => simp [intOf]; omega
      · have hk' : (x.k == 67) = false := by simp [hk]
        have HFL : Hid ((ks.l.take (i + 1)).filter isIm = (ks.l.take i).filter isIm) := by
          unfold Hid
          rw [List.take_add_one, HX.out, List.filter_append]
          simp [isIm, hk]
        clear hk
        go_wp2_with fail
        go_roundw
        case rel =>
          refine ⟨i + 1, by go_num, by omega, ?_, hB1⟩
          unfold Hid
          rw [HFL.out]
          exact HN1.out
        case measure => simp [intOf]; omega
    · have hlt' : ¬ (i : Int) < ks.len := by omega
      obtain rfl : i = ks.len := by omega
      have HN2 : Hid (NR w.heap.size wr u3 (ks.l.filter isIm)) := by
        have := HN.out
        rw [List.take_of_length_le (by rw [Fo.l_length]; omega)] at this
        exact this
      go_wp2_with fail
      go_ret
      exact ⟨_, rfl, HN2.out, HB.out⟩
end Go.Proofs.Ytmfngmkhdppnjaa
