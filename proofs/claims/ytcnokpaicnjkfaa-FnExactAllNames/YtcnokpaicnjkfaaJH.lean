import Derived.Test.YtcnokpaicnjkfaaFc
import Derived.Test.YtcnokpaicnjkfaaShelf
import Derived.Test.YtcnokpaicnjkfaaKTostring
import Derived.Deep.LoopGhost
namespace Go.Proofs.Ytcnokpaicnjkfaa.F
open Go.RowKit Go.Joins

theorem i_clone (x : ByteArray) (w : World) (hx : x.size ≤ 16777216) : Calls Try.prog 57 #[.string x] w fun e w' => e = .returned (.string x) ∧ Below w.heap.size w w' := by
  have := Try.stringslite_Clone x w (by omega)
  go_enter Try.func57, Try.ntmps57
  go_wp2_with fail
  refine this.mono ?_
  rintro e w2 ⟨rfl, b2⟩
  go_wp2_with fail
  go_ret
  exact ⟨rfl, b2⟩

theorem Try.info3 : (Try.prog.info? 3).map (fun i => (i.zero, i.size, i.bytes)) = some (some (.int .i64 0), 1, 8) := by kernel_rfl

/-- A number as a value. -/
def iv (n : Nat) : Value := .int .i64 (n : Int)

/-- A book of names T, of each of which the next one is known or not. -/
structure NB (w : World) (B0 b M : Nat) (g1 g2 g3 : Option Nat) (T : List ByteArray) (L : List Nat) : Prop where
  nx : NX w B0 b M g1 g2 g3 (kvF T 0) (T.map Value.string) (L.map iv) (List.replicate T.length (.int .i64 0))
  nd : T.Nodup
  len : L.length = T.length

theorem NB.kept {w w' : World} {B0 b M : Nat} {g1 g2 g3 : Option Nat} {T : List ByteArray} {L : List Nat} {S : Nat → Prop} (h : NB w B0 b M g1 g2 g3 T L) (k : Kept S w w') (hS : ∀ c, OwnB b M g1 g2 g3 c → S c) : NB w' B0 b M g1 g2 g3 T L := ⟨h.nx.kept k hS, h.nd, h.len⟩

/-- A new pair in the map. -/
theorem NX.put {w w' : World} {B0 b M : Nat} {g1 g2 g3 : Option Nat} {kv kv' : List (ByteArray × Value)} {X1 X2 X3 : List Value} (h : NX w B0 b M g1 g2 g3 kv X1 X2 X3) (hm : MS w' M kv') (hg : w.grownBy w' (some M)) : NX w' B0 b M g1 g2 g3 kv' X1 X2 X3 ∧ Ch w w' b M g1 g2 g3 g1 g2 g3 := by
  have a := h.ap
  have k : Kept (fun c => c ≠ M) w w' := Kept.grown hg (fun c hc hx => hx (Option.some.inj hc).symm)
  have hb := (h.lo b (.inl rfl)).2
  have hc : ∀ j, w'.cell? ⟨b, j, none⟩ = w.cell? ⟨b, j, none⟩ := fun j => k.cell (p := ⟨b, j, none⟩) hb a.bM
  exact ⟨⟨(hc 0).trans h.c0, hm, h.r1.keep k (hc 1) (fun c e e2 => a.m1 (by rw [e, e2])), h.r2.keep k (hc 2) (fun c e e2 => a.m2 (by rw [e, e2])), h.r3.keep k (hc 3) (fun c e e2 => a.m3 (by rw [e, e2])), fun j => (k.frozen (p := ⟨b, j, none⟩) hb a.bM).trans (h.fz j), a, fun c hcc => ⟨(h.lo c hcc).1, Nat.lt_of_lt_of_le (h.lo c hcc).2 k.size⟩⟩, ⟨k.mono (fun c _ hn e => hn (.inr (.inl e))), fun _ hc => .inl hc⟩⟩

set_option maxHeartbeats 2000000 in
set_option maxRecDepth 100000 in
/-- The number of a text that is known. -/
theorem num_old {W : World} {B0 b M : Nat} {g1 g2 g3 : Option Nat} {T : List ByteArray} {L : List Nat} (h : NB W B0 b M g1 g2 g3 T L) (x : ByteArray) (i : Nat) (hi : T[i]? = some x) :
    Calls Try.prog 48 #[.pointer (some ⟨b, 0, none⟩), .string x] W fun e W' => e = .returned (.int .i64 i) ∧ W' = W := by
  have h0 := h.nx.c0
  have hr := h.nx.map.lookL x (kv_some T 0 i h.nd hi) true
  rw [Nat.zero_add] at hr
  simp only [if_true] at hr
  clear h hi
  go_enter Try.func48, Try.ntmps48
  go_wp2_with fail
  go_ret
  exact ⟨rfl, rfl⟩

set_option maxHeartbeats 4000000 in
set_option maxRecDepth 100000 in
/-- The number of a new text. -/
theorem num_new {W : World} {B0 b M : Nat} {g1 g2 g3 : Option Nat} {T : List ByteArray} {L : List Nat} (h : NB W B0 b M g1 g2 g3 T L) (x : ByteArray) (hi : ¬ x ∈ T) (hx : x.size ≤ 16777216) (hT : T.length ≤ 16777216) (hB : B0 ≤ W.heap.size) :
    Calls Try.prog 48 #[.pointer (some ⟨b, 0, none⟩), .string x] W fun e W' => e = .returned (.int .i64 T.length) ∧ ∃ h1 h2 h3, NB W' B0 b M h1 h2 h3 (T ++ [x]) (L ++ [0]) ∧ Ch W W' b M g1 g2 g3 h1 h2 h3 := by
  have h0 := h.nx.c0
  have hr := h.nx.map.missL x (kv_none T 0 hi) true
  simp only [if_true] at hr
  obtain ⟨n, hn⟩ : ∃ n, n = T.length := ⟨_, rfl⟩
  obtain ⟨a1, c1, t1, -, -⟩ := h.nx.r1
  rw [List.length_map, ← hn] at t1
  have HC := hide (i_clone x W hx)
  have HH := hide h
  have HI := hide hi
  have HT := hide hT
  have HB := hide hB
  have HN := hide hn
  rw [← hn]
  clear h hi hx hT hB hn
  go_enter Try.func48, Try.ntmps48
  go_upto_region 4 with fail
  clear h0 hr t1
  go_upto_region 5 with (go_at_call 57; refine HC.out.mono ?_; rintro e W1 ⟨rfl, b1⟩)
  have n1 := HH.out.nx.kept (kt (S := fun _ => True) b1) (fun _ _ => trivial)
  have e1 := Ch.of_below b1 b M g1 g2 g3
  obtain ⟨W2, hu, m2, gr2⟩ := n1.map.putL x (kv_none T 0 HI.out) (.int .i64 n)
  obtain ⟨n2, e2⟩ := n1.put m2 gr2
  have z1 := n1.c0
  have H2 := hide n2
  have E2 := hide (e1.trans e2)
  have B2 : Hid (B0 ≤ W2.heap.size) := Nat.le_trans HB.out (e1.trans e2).kept.size
  clear n1 m2 gr2 n2 e1 e2 b1
  go_upto_region 6 with fail
  clear z1 hu
  have h63 : Hid (n + 1 ≤ maxLen ∧ (n + 1) * 16 ≤ 140737488355328) := by have h1 := HT.out; have h2 := HN.out; unfold Hid maxLen; omega
  have h64 : Hid (n + 1 ≤ maxLen ∧ (n + 1) * 8 ≤ 140737488355328) := by have h1 := HT.out; have h2 := HN.out; unfold Hid maxLen; omega
  obtain ⟨a3, c3, t3, o3, f3⟩ := or_grow H2.out.r1 H2.out.ap.b1 (.string x)
  rw [List.length_map, ← HN.out] at t3 o3 f3
  have O3 := hide o3
  have F3 := hide f3
  have y3 := H2.out.fz 1
  have Z3 : Hid (B0 ≤ (W2.alloc (.cells #[.string x] 9)).heap.size) := Nat.le_trans B2.out (by simp)
  clear o3 f3
  go_upto_region 7 with (at_builtin; refine ur_stepL rfl _ _ 25 9 rfl Try.info9 Try.underlying25 rfl (by decide) B0 (W2.alloc (.cells #[.string x] 9)) (.slice a3 n c3) n (T.map Value.string) [.string x] _ _ rfl rfl Z3.out O3.out (heap_new _ _) rfl (by simp [Value.oneCell']) h63.out.1 h63.out.2 ?_; intro q3 k3 v3 hO hG hat; have A3 := hide (F3.out q3 k3 v3 hO hG hat); have x3 := A3.out.1.1; have u3 := A3.out.1.2.trans y3; clear hO hG hat)
  obtain ⟨W3, hW3⟩ : ∃ V, v3.setCell ⟨b, 1, none⟩ (.slice (some ⟨q3, 0, none⟩) (n + 1) k3) = V := ⟨_, rfl⟩
  have G3 := hide (H2.out.grow1 A3.out.2)
  rw [hW3] at G3 ⊢
  have H3 : Hid (NX W3 B0 b M (some q3) g2 g3 (kvF T 0 ++ [(x, .int .i64 n)]) (T.map Value.string ++ [.string x]) (L.map iv) (List.replicate T.length (.int .i64 0))) := G3.out.1
  have B3 : Hid (B0 ≤ W3.heap.size) := Nat.le_trans B2.out G3.out.2.kept.size
  clear x3 u3 t3 y3 hW3
  obtain ⟨a4, c4, t4, o4, f4⟩ := or_grow H3.out.r2 H3.out.ap.b2 (.int .i64 0)
  rw [List.length_map, HH.out.len, ← HN.out] at t4 o4 f4
  have O4 := hide o4
  have F4 := hide f4
  have y4 := H3.out.fz 2
  have Z4 : Hid (B0 ≤ (W3.alloc (.cells #[.int .i64 0] 3)).heap.size) := Nat.le_trans B3.out (by simp)
  clear o4 f4
  go_upto_region 8 with (at_builtin; refine ur_stepL rfl _ _ 53 3 rfl Try.info3 Try.underlying53 rfl (by decide) B0 (W3.alloc (.cells #[.int .i64 0] 3)) (.slice a4 n c4) n (L.map iv) [.int .i64 0] _ _ rfl rfl Z4.out O4.out (heap_new _ _) rfl (by simp [Value.oneCell']) h64.out.1 h64.out.2 ?_; intro q4 k4 v4 hO hG hat; have A4 := hide (F4.out q4 k4 v4 hO hG hat); have x4 := A4.out.1.1; have u4 := A4.out.1.2.trans y4; clear hO hG hat)
  obtain ⟨W4, hW4⟩ : ∃ V, v4.setCell ⟨b, 2, none⟩ (.slice (some ⟨q4, 0, none⟩) (n + 1) k4) = V := ⟨_, rfl⟩
  have A4' := hide A4.out.2
  have hxx : (L.map iv).length = n := by rw [List.length_map, HH.out.len, ← HN.out]
  rw [hW4] at A4' ⊢
  have G4 := hide (H3.out.grow2 A4'.out)
  have H4 : Hid (NX W4 B0 b M (some q3) (some q4) g3 (kvF T 0 ++ [(x, .int .i64 n)]) (T.map Value.string ++ [.string x]) (L.map iv ++ [.int .i64 0]) (List.replicate T.length (.int .i64 0))) := G4.out.1
  have B4 : Hid (B0 ≤ W4.heap.size) := Nat.le_trans B3.out G4.out.2.kept.size
  clear x4 u4 t4 y4 hW4 hxx A4'
  obtain ⟨a5, c5, t5, o5, f5⟩ := or_grow H4.out.r3 H4.out.ap.b3 (.int .i64 0)
  rw [List.length_replicate, ← HN.out] at t5 o5 f5
  have O5 := hide o5
  have F5 := hide f5
  have y5 := H4.out.fz 3
  have Z5 : Hid (B0 ≤ (W4.alloc (.cells #[.int .i64 0] 3)).heap.size) := Nat.le_trans B4.out (by simp)
  clear o5 f5
  go_wp2_with (at_builtin; refine ur_stepL rfl _ _ 53 3 rfl Try.info3 Try.underlying53 rfl (by decide) B0 (W4.alloc (.cells #[.int .i64 0] 3)) (.slice a5 n c5) n (List.replicate n (.int .i64 0)) [.int .i64 0] _ _ rfl rfl Z5.out O5.out (heap_new _ _) rfl (by simp [Value.oneCell']) h64.out.1 h64.out.2 ?_; intro q5 k5 v5 hO hG hat; have A5 := hide (F5.out q5 k5 v5 hO hG hat); have x5 := A5.out.1.1; have u5 := A5.out.1.2.trans y5; clear hO hG hat)
  go_ret
  refine ⟨rfl, some q3, some q4, some q5, ⟨?_, ?_, ?_⟩, ((E2.out.trans G3.out.2).trans G4.out.2).trans (H4.out.grow3 (by rw [← HN.out]; exact A5.out.2)).2⟩
  · have hf := (H4.out.grow3 (by rw [← HN.out]; exact A5.out.2)).1
    rw [kv_app, Nat.zero_add, ← HN.out, List.map_append, List.map_append, List.length_append, List.length_singleton, ← HN.out, List.replicate_succ']
    rw [← HN.out] at hf
    exact hf
  · exact List.nodup_append.2 ⟨HH.out.nd, by simp, fun y hy z hz => by rw [List.mem_singleton] at hz; rw [hz]; exact fun e => HI.out (by rw [← e]; exact hy)⟩
  · rw [List.length_append, List.length_append, HH.out.len]
    rfl

end Go.Proofs.Ytcnokpaicnjkfaa.F

namespace Go.Proofs.Ytcnokpaicnjkfaa.F
open Go.RowKit Go.Joins

theorem zero_cells (u : Value) (n : Nat) : (Builtin.zeroCells #[u] n).toList = List.replicate n u := by
  apply List.ext_getElem?
  intro k
  simp only [Array.getElem?_toList, Builtin.zeroCells, List.getElem?_replicate]
  by_cases h : k < n <;> simp [h, Nat.mod_one]

/-- A row of zeros behind a row of our own. -/
theorem run_zeros {P : Program} (w : World) (base : Nat) (t ki ty e : TypeId) (i : TypeInfo) (z : Value) (ht : P.underlying t = some (.slice e)) (hk : P.underlying ki = some (.int .i64)) (hi : P.info? e = some i) (hz : i.zero = some z) (hsize : i.size = 1) (hzs : z.cells = #[z]) (h1 : z.oneCell' = true)
    (m : Nat) (hm : 0 < m) (v : Value) (n : Nat) (xs : List Value) (hown : w.ownsRow base e 1 v n xs) (h63 : n + m ≤ maxLen) (hb : (n + m) * i.bytes ≤ 140737488355328) (hbase : base ≤ w.heap.size) :
    ∃ g cap w', (Builtin.append_ #[t, ki] ty #[v, .int .i64 m]).run P w = .ok (.slice (some ⟨g, 0, none⟩) (n + m) cap) w' ∧ w'.ownsRow base e 1 (.slice (some ⟨g, 0, none⟩) (n + m) cap) (n + m) (xs ++ List.replicate m z) ∧ w.grownBy w' v.ownBlock ∧ (v.ownBlock = some g ∨ g = w.heap.size) := by
  have hmx : n + m ≤ 9223372036854775807 := by simp only [maxLen] at h63; omega
  have hw : IntKind.i64.wrap (m : Int) = m := wrap_small _ (by omega) (by omega)
  have hlen : (xs ++ List.replicate m z).length = (n + m) * 1 := by rw [List.length_append, hown.1, List.length_replicate]; omega
  have hm0 : m ≠ 0 := by omega
  have hneg : ¬ ((m : Int) < 0) := by omega
  have hb2 : m * i.bytes ≤ 140737488355328 := Nat.le_trans (Nat.mul_le_mul_right _ (by omega)) hb
  have h48 : ¬ (281474976710656 < (m : Int) * (i.bytes : Int)) := by
    have : (m : Int) * (i.bytes : Int) = ((m * i.bytes : Nat) : Int) := by simp
    omega
  rcases hown.2 with ⟨rfl, rfl⟩ | ⟨g, cap, cur, rfl, hbg, hg, hnc, hcm, hcs, htake⟩
  · have hx : xs = [] := List.eq_nil_of_length_eq_zero (by simpa using hown.1)
    subst hx
    have h48' : ¬ (281474976710656 < Builtin.nextslicecap m 0 * i.bytes) := by rw [nextslicecap_zero hm]; omega
    have h63' : ¬ (9223372036854775807 < (m : Int)) := by omega
    have hge := grownCap_ge w m 0 e
    have hcm : grownCap w m 0 e ≤ maxLen := grownCap_le_maxLen w m 0 e (by omega)
    refine ⟨w.heap.size, grownCap w m 0 e, w.drew.alloc (.cells (Builtin.zeroCells #[z] m ++ Builtin.zeroCells #[z] (grownCap w m 0 e - m)) e), ?_, ⟨hlen, .inr ⟨w.heap.size, _, _, by rw [Nat.zero_add], hbase, heap_alloc_new w.drew _, by omega, hcm, ?_, ?_⟩⟩, ⟨rfl, rfl, rfl, by simp, fun k hk _ => _root_.Go.heap_alloc_old w.drew _ hk⟩, .inr rfl⟩
    · simp [Builtin.append_, run_underlying ht, run_underlying hk, sizeOf, typeInfo, zeroValue, hi, hz, hsize, hzs, asInt, asIntOf, hw, hneg, h48, hm0, h63', h48', Question.forced, run_firstCells_none, newRow, grownCap]
    · simp only [Array.size_append, size_zeroCells, List.size_toArray, List.length_singleton]
      omega
    · rw [Array.toList_append, zero_cells, zero_cells, List.nil_append, Nat.zero_add, Nat.mul_one]
      exact List.take_left' (by simp)
  · have hfin : ∀ c2 : Nat, n + m ≤ c2 → ((xs.toArray ++ Builtin.zeroCells #[z] m ++ Builtin.zeroCells #[z] (c2 - (n + m))).size = c2 * 1 ∧ (xs.toArray ++ Builtin.zeroCells #[z] m ++ Builtin.zeroCells #[z] (c2 - (n + m))).toList.take ((n + m) * 1) = xs ++ List.replicate m z) := fun c2 h2 => by
      refine ⟨?_, ?_⟩
      · simp only [Array.size_append, size_zeroCells, List.size_toArray, List.length_singleton, hown.1]
        omega
      · rw [Array.toList_append, Array.toList_append, zero_cells, zero_cells, ← hlen]
        exact List.take_left
    by_cases hroom : n + m ≤ cap
    · have hf : n * i.size + (List.replicate m z).length ≤ cur.size := by rw [List.length_replicate, hsize, hcs]; omega
      have hst := run_storeCells_at P g (n * i.size) e (List.replicate m z) 0 cur w hg (by simpa using hf) (fun u hu => by rw [List.eq_of_mem_replicate hu]; exact h1)
      simp only [Nat.add_zero, hsize, Nat.mul_one] at hst
      refine ⟨g, cap, _, ?_, ⟨hlen, .inr ⟨g, cap, _, rfl, hbg, setRow_heap w g cur (cur.toList.take n ++ List.replicate m z ++ cur.toList.drop (n + m)).toArray e _ hg, hroom, hcm, ?_, ?_⟩⟩, ⟨rfl, rfl, rfl, by simp, fun k _ hk => setRow_other w g k _ (fun e => hk (by simp [Value.ownBlock, e]))⟩, .inl rfl⟩
      · simp [Builtin.append_, run_underlying ht, run_underlying hk, sizeOf, typeInfo, zeroValue, hi, hz, hsize, hzs, asInt, asIntOf, hw, hneg, h48, hm0, hroom, zero_cells, Addr.add_lit, hst]
      · simp only [List.size_toArray, List.length_append, List.length_take, List.length_drop, Array.length_toList, List.length_replicate]
        omega
      · rw [Nat.mul_one] at htake
        rw [htake, ← hlen]
        exact List.take_left
    · have holds : ∀ j u, xs[j]? = some u → w.cell? ((⟨g, 0, none⟩ : Addr).add j) = some u := hown.cells (g := g) rfl
      have hfo := run_firstCells_some (P := P) w.drew i.size n ⟨g, 0, none⟩ n cap xs (by rw [hsize]; exact hown.1) (by simpa using holds)
      have h48' : ¬ (281474976710656 < Builtin.nextslicecap (n + m) cap * i.bytes) := by have := growslice_fits (old := cap) (by omega) hb; omega
      have h63' : ¬ (9223372036854775807 < (n : Int) + (m : Int)) := by omega
      have hge := grownCap_ge w (n + m) cap e
      have hcm2 : grownCap w (n + m) cap e ≤ maxLen := grownCap_le_maxLen w (n + m) cap e h63
      rw [hsize] at hfo
      refine ⟨w.heap.size, grownCap w (n + m) cap e, w.drew.alloc (.cells (xs.toArray ++ Builtin.zeroCells #[z] m ++ Builtin.zeroCells #[z] (grownCap w (n + m) cap e - (n + m))) e), ?_, ⟨hlen, .inr ⟨w.heap.size, _, _, rfl, hbase, heap_alloc_new w.drew _, hge, hcm2, (hfin _ hge).1, (hfin _ hge).2⟩⟩, ⟨rfl, rfl, rfl, by simp, fun k hk _ => _root_.Go.heap_alloc_old w.drew _ hk⟩, .inr rfl⟩
      simp [Builtin.append_, run_underlying ht, run_underlying hk, sizeOf, typeInfo, zeroValue, hi, hz, hsize, hzs, asInt, asIntOf, hw, hneg, h48, hm0, hroom, h63', h48', hfo, Question.forced, newRow, grownCap]

/-- The same at the operation. -/
theorem zs_step {P : Program} {ops : Array Oper} {rest : List Oper} {o : Oper} {a : Act} {Q : Exit → Act → World → Prop} (hgd : o.guard = none) (s x : Operand) (t ki e : TypeId)
    (ho : o.op = .call { callee := .builtin .append, args := #[s, x], argTypes := #[t, ki] }) {z : Value} {bytes : Nat} (hinfo : (P.info? e).map (fun i => (i.zero, i.size, i.bytes)) = some (some z, 1, bytes)) (ht : P.underlying t = some (.slice e)) (hk : P.underlying ki = some (.int .i64)) (hzs : z.cells = #[z]) (h1 : z.oneCell' = true)
    (B : Nat) (W : World) (v : Value) (n m : Nat) (xs : List Value) (hs : a.eval s = v) (hx : a.eval x = .int .i64 m) (hm : 0 < m) (hB : B ≤ W.heap.size) (hown : W.ownsRow B e 1 v n xs) (h63 : n + m ≤ maxLen) (hbytes : (n + m) * bytes ≤ 140737488355328)
    (h : ∀ g cap W', W'.ownsRow B e 1 (.slice (some ⟨g, 0, none⟩) (n + m) cap) (n + m) (xs ++ List.replicate m z) → W.grownBy W' v.ownBlock → (v.ownBlock = some g ∨ g = W.heap.size) → wpList P ops Q rest (a.put o.dst (.slice (some ⟨g, 0, none⟩) (n + m) cap)) W') : wpList P ops Q (o :: rest) a W := by
  obtain ⟨i0, hi, hz0, hz1, hz2⟩ := info_parts hinfo
  refine wpList_plain hgd fun K hK => ?_
  obtain ⟨g, cap, w', hr, h2, h3, h4⟩ := run_zeros (P := P) W B t ki o.type e i0 z ht hk hi hz0 hz1 hzs h1 m hm v n xs hown h63 (by rw [hz2]; exact hbytes) hB
  unfold Oper.wp execOp
  simp only [ho, resolve, invoke, builtin, Sem.run_bind, Sem.run_pure, Result.andThen_ok, List.map_toArray, List.map_cons, List.map_nil, hs, hx, hr]
  exact hK _ _ (h g cap w' h2 h3 h4)

end Go.Proofs.Ytcnokpaicnjkfaa.F

namespace Go.Proofs.Ytcnokpaicnjkfaa.F
open Go.RowKit Go.Joins

/-- A set of numbers in memory: those in the round 1. -/
structure NS (w : World) (B0 s : Nat) (g : Option Nat) (R : List Nat) : Prop where
  r : OR w B0 s 0 3 (R.map iv) g
  c1 : w.cell? ⟨s, 1, none⟩ = some (.int .i64 1)
  c2 : ∃ z : Int, w.cell? ⟨s, 2, none⟩ = some (.int .i64 z)
  fz : ∀ j, w.frozen? ⟨s, j, none⟩ = false
  ne : g ≠ some s
  lo : B0 ≤ s

def OwnS (s : Nat) (g : Option Nat) (c : Nat) : Prop := c = s ∨ g = some c

theorem NS.kept {w w' : World} {B0 s : Nat} {g : Option Nat} {R : List Nat} {S : Nat → Prop} (h : NS w B0 s g R) (k : Kept S w w') (hS : ∀ c, OwnS s g c → S c) : NS w' B0 s g R := by
  have hb := h.r.lt
  have sb : S s := hS s (.inl rfl)
  have hc : ∀ j, w'.cell? ⟨s, j, none⟩ = w.cell? ⟨s, j, none⟩ := fun j => k.cell (p := ⟨s, j, none⟩) hb sb
  obtain ⟨z, hz⟩ := h.c2
  exact ⟨h.r.keep k (hc 0) (fun c e => hS c (.inr e)), (hc 1).trans h.c1, ⟨z, (hc 2).trans hz⟩, fun j => (k.frozen (p := ⟨s, j, none⟩) hb sb).trans (h.fz j), h.ne, h.lo⟩

theorem below_drewN (n : Nat) (W : World) : ∀ k, Below n W (W.drewN k)
  | 0 => Below.refl _ _
  | k + 1 => (below_drewN n W k).drew

/-- Where a row of our own lies. -/
theorem OR.at_ {w : World} {B0 b j : Nat} {e : TypeId} {xs : List Value} {g : Option Nat} (h : OR w B0 b j e xs g) (hl : 0 < xs.length) : ∃ q c, g = some q ∧ w.cell? ⟨b, j, none⟩ = some (.slice (some ⟨q, 0, none⟩) xs.length c) ∧ (∀ i u, xs[i]? = some u → w.cell? ⟨q, i, none⟩ = some u) ∧ (∀ i, w.frozen? ⟨q, i, none⟩ = false) ∧ xs.length ≤ c ∧ w.ownsRow B0 e 1 (.slice (some ⟨q, 0, none⟩) xs.length c) xs.length xs := by
  obtain ⟨a, c, h1, h2, h3⟩ := h
  rcases h2.2 with ⟨e1, e2⟩ | ⟨q, cap, cur, e1, hb, hg, hc, -⟩
  · omega
  · injection e1 with e1 e2 e3
    subst e1
    subst e3
    refine ⟨q, c, h3.symm, h1, fun i u hu => ?_, fun i => h2.frozenAt i, hc, h2⟩
    have := h2.cells (g := q) rfl i u hu
    rwa [addr_add, Nat.zero_add] at this

set_option maxHeartbeats 2000000 in
set_option maxRecDepth 100000 in
/-- Is a number in the set? -/
theorem i_has {W : World} {B0 s : Nat} {g : Option Nat} {R : List Nat} (h : NS W B0 s g R) (n : Nat) (q : Bool) (hq : q = true ↔ R[n]? = some 1) (hR : R.length ≤ 16777217) :
    Calls Try.prog 29 #[.pointer (some ⟨s, 0, none⟩), .int .i64 n] W fun e W' => e = .returned (.bool q) ∧ Below W.heap.size W W' := by
  obtain ⟨l, hl⟩ : ∃ l, l = R.length := ⟨_, rfl⟩
  by_cases hn : n < R.length
  · obtain ⟨b, c, -, p0, pc, -, -, -⟩ := h.r.at_ (by rw [List.length_map]; omega)
    rw [List.length_map, ← hl] at p0
    obtain ⟨r, hr⟩ : ∃ r, R[n]? = some r := ⟨_, List.getElem?_eq_getElem hn⟩
    have pn : W.cell? ⟨b, n, none⟩ = some (.int .i64 (r : Int)) := pc n _ (by rw [List.getElem?_map, hr]; rfl)
    have p1 := h.c1
    have hnl : (n : Int) < (l : Int) := by omega
    have hnl2 : n < l := by omega
    have HE : Hid (q = decide ((r : Int) = 1)) := by
      rw [hr] at hq
      have e : (some r = some 1) ↔ (r : Int) = 1 := by simp; omega
      rw [e] at hq
      unfold Hid
      cases q with
      | true => exact (decide_eq_true (hq.1 rfl)).symm
      | false => exact (decide_eq_false (fun h => by have := hq.2 h; simp at this)).symm
    clear h hn hr hq pc hR hl
    go_enter Try.func29, Try.ntmps29
    go_upto_region 1 with fail
    go_quiet (fail)
    go_wp2_with fail
    go_ret
    exact ⟨by rw [HE.out]; rfl, below_drewN _ _ _⟩
  · obtain ⟨a, c, p0, -, -⟩ := h.r
    rw [List.length_map, ← hl] at p0
    have hnl : ¬ (n : Int) < (l : Int) := by omega
    have HE : Hid (q = false) := by
      unfold Hid
      cases q with
      | false => rfl
      | true =>
        have := hq.1 rfl
        rw [List.getElem?_eq_none (by omega)] at this
        cases this
    clear h hn hq hR hl
    go_enter Try.func29, Try.ntmps29
    go_upto_region 1 with fail
    go_quiet (fail)
    go_wp2_with fail
    go_ret
    exact ⟨by rw [HE.out]; rfl, below_drewN _ _ _⟩

/-- One number of a row is set. -/
theorem OR.set {w : World} {B0 b j q : Nat} {e : TypeId} {X : List Nat} (h : OR w B0 b j e (X.map iv) (some q)) (hb : b ≠ q) (n v : Nat) (hn : n < X.length) : OR (w.setCell ⟨q, n, none⟩ (iv v)) B0 b j e ((X.set n v).map iv) (some q) := by
  obtain ⟨a, c, h1, h2, h3⟩ := h
  have hs : X = X.take n ++ X[n] :: X.drop (n + 1) := by rw [List.getElem_cons_drop, List.take_append_drop]
  have hs2 : X.set n v = X.take n ++ v :: X.drop (n + 1) := by rw [List.set_eq_take_append_cons_drop, if_pos hn]
  have hl : (X.set n v).length = X.length := List.length_set
  refine ⟨a, c, ?_, ?_, ?_⟩
  · rw [World.cell?_setCell_other _ _ _ _ (by simp)]
    rw [List.length_map, hl]
    rw [List.length_map] at h1
    exact h1
  · rw [List.length_map] at h2 h3
    rw [List.length_map, hl]
    have ha : a = some ⟨q, 0, none⟩ := by
      rcases h2.2 with ⟨e1, e2⟩ | ⟨q2, cap, cur, e1, -⟩
      · omega
      · injection e1 with e1 _ _
        subst e1
        have e5 : q2 = q := Option.some.inj h3
        rw [e5]
    subst ha
    rw [hs] at h2
    simp only [List.map_append, List.map_cons] at h2
    have h5 := ownsRow_set h2 (iv v)
    rw [← hs, List.length_map, List.length_take, Nat.min_eq_left (by omega)] at h5
    rw [hs2, List.map_append, List.map_cons]
    exact h5
  · rw [List.length_map] at h3
    rw [List.length_map, hl]
    exact h3

/-- More things in a row of our own. -/
theorem or_more {w w3 : World} {B0 b j : Nat} {e : TypeId} {xs ys : List Value} {g : Option Nat} {a : Option Addr} {c g7 cap : Nat} (h1 : w.cell? ⟨b, j, none⟩ = some (.slice a xs.length c)) (h3 : (Value.slice a xs.length c).ownBlock = g) (hg : g ≠ some b)
    (hO : w3.ownsRow B0 e 1 (.slice (some ⟨g7, 0, none⟩) ys.length cap) ys.length ys) (hG : w.grownBy w3 (Value.slice a xs.length c).ownBlock) (hat : (Value.slice a xs.length c).ownBlock = some g7 ∨ g7 = w.heap.size) :
    (w3.cell? ⟨b, j, none⟩ = some (.slice a xs.length c) ∧ w3.frozen? ⟨b, j, none⟩ = w.frozen? ⟨b, j, none⟩) ∧ OR (w3.setCell ⟨b, j, none⟩ (.slice (some ⟨g7, 0, none⟩) ys.length cap)) B0 b j e ys (some g7) ∧
      Kept (fun c => c ≠ b ∧ g ≠ some c) w (w3.setCell ⟨b, j, none⟩ (.slice (some ⟨g7, 0, none⟩) ys.length cap)) ∧ (∀ k, k ≠ j → (w3.setCell ⟨b, j, none⟩ (.slice (some ⟨g7, 0, none⟩) ys.length cap)).cell? ⟨b, k, none⟩ = w.cell? ⟨b, k, none⟩) ∧
      (∀ k, (w3.setCell ⟨b, j, none⟩ (.slice (some ⟨g7, 0, none⟩) ys.length cap)).frozen? ⟨b, k, none⟩ = w.frozen? ⟨b, k, none⟩) ∧ (g = some g7 ∨ w.heap.size ≤ g7) := by
  have hl : b < w.heap.size := block_lt_of_cell h1
  rw [h3] at hG hat
  have ka : Kept (fun c => g ≠ some c) w w3 := Kept.grown hG (fun c hc hx => hx hc)
  have hat' : g = some g7 ∨ w.heap.size ≤ g7 := by
    rcases hat with e | e
    · exact .inl e
    · exact .inr (by omega)
  have hne : b ≠ g7 := by
    rcases hat' with e | e
    · exact fun e2 => hg (by rw [e, e2])
    · omega
  have ks : Kept (fun c => c ≠ b) w3 (w3.setCell ⟨b, j, none⟩ (.slice (some ⟨g7, 0, none⟩) ys.length cap)) := Kept.setCell _ _ _ _ (fun hx => hx rfl)
  have hcj : w3.cell? ⟨b, j, none⟩ = some (.slice a xs.length c) := (ka.cell (p := ⟨b, j, none⟩) hl hg).trans h1
  refine ⟨⟨hcj, ka.frozen (p := ⟨b, j, none⟩) hl hg⟩, ⟨some ⟨g7, 0, none⟩, cap, World.cell?_setCell_same _ _ _ hcj, ownsRow_kept hO ks (fun q hq => by have e9 : g7 = q := Option.some.inj hq; rw [← e9]; exact fun e => hne e.symm), rfl⟩, (ka.mono (fun _ _ h => h.2)).trans (ks.mono (fun _ _ h => h.1)), fun k hk => ?_, fun k => ?_, hat'⟩
  · rw [World.cell?_setCell_other _ _ _ _ (by simp)]
    exact ka.cell (p := ⟨b, k, none⟩) hl hg
  · rw [World.frozen?_setCell]
    exact ka.frozen (p := ⟨b, k, none⟩) hl hg

/-- What a set becomes with one number more. -/
structure AdS (W W' : World) (B0 s : Nat) (g : Option Nat) (R : List Nat) (n : Nat) (g' : Option Nat) (R' : List Nat) : Prop where
  ns : NS W' B0 s g' R'
  mem : ∀ k : Nat, R'[k]? = some 1 ↔ (R[k]? = some 1 ∨ k = n)
  len : R'.length ≤ R.length ∨ R'.length = n + 1
  kept : Kept (fun c => ¬ OwnS s g c) W W'
  new : ∀ c, OwnS s g' c → OwnS s g c ∨ W.heap.size ≤ c

/-- The last two stores. -/
theorem AdS.done {W W3 W4 : World} {B0 s n q3 : Nat} {g g3 : Option Nat} {R R3 : List Nat} (h : NS W3 B0 s g3 R3) (e3 : g3 = some q3) (hq : s ≠ q3) (hn : n < R3.length) (hm : ∀ k : Nat, R3[k]? = some 1 ↔ R[k]? = some 1) (k3 : Kept (fun c => ¬ OwnS s g c) W W3) (n3 : ∀ c, OwnS s g3 c → OwnS s g c ∨ W.heap.size ≤ c) (hl : R3.length ≤ R.length ∨ R3.length = n + 1) (hW : (W3.setCell ⟨q3, n, none⟩ (.int .i64 1)).drew = W4) (z : Int) :
    AdS W (W4.setCell ⟨s, 2, none⟩ (.int .i64 z)) B0 s g R n (some q3) (R3.set n 1) := by
  subst e3
  have hsl := h.r.lt
  have k4 : Kept (fun c => c ≠ q3) W3 W4 := by rw [← hW]; exact (Kept.setCell _ _ _ _ (fun hx => hx rfl)).trans (Kept.drew _ _)
  have o4 : OR W4 B0 s 0 3 ((R3.set n 1).map iv) (some q3) := by
    rw [← hW]
    exact (h.r.set hq n 1 hn).keep (Kept.drew (fun _ => True) _) rfl (fun _ _ => trivial)
  have ks : Kept (fun c => c ≠ s) W4 (W4.setCell ⟨s, 2, none⟩ (.int .i64 z)) := Kept.setCell _ _ _ _ (fun hx => hx rfl)
  have c4 : ∀ j, W4.cell? ⟨s, j, none⟩ = W3.cell? ⟨s, j, none⟩ := fun j => k4.cell (p := ⟨s, j, none⟩) hsl hq
  have hso : ∀ j, j ≠ 2 → (W4.setCell ⟨s, 2, none⟩ (.int .i64 z)).cell? ⟨s, j, none⟩ = W4.cell? ⟨s, j, none⟩ := fun j hj => World.cell?_setCell_other _ _ _ _ (by simp)
  obtain ⟨z0, hz0⟩ := h.c2
  refine ⟨⟨o4.keep ks (hso 0 (by decide)) (fun c e e2 => hq (by rw [← e2]; exact (Option.some.inj e).symm)), ((hso 1 (by decide)).trans (c4 1)).trans h.c1, ⟨z, World.cell?_setCell_same _ _ _ ((c4 2).trans hz0)⟩, fun j => ?_, fun e => hq (Option.some.inj e).symm, h.lo⟩, fun k => ?_, by rw [List.length_set]; exact hl, ?_, n3⟩
  · rw [World.frozen?_setCell]
    exact (k4.frozen (p := ⟨s, j, none⟩) hsl hq).trans (h.fz j)
  · rw [List.getElem?_set]
    by_cases e : n = k
    · subst e
      simp [hn]
    · rw [if_neg e, hm k]
      exact ⟨fun h => .inl h, fun h => h.resolve_right (fun e2 => e e2.symm)⟩
  · refine ⟨(k4.1.trans k3.1), (k4.2.trans k3.2), (k4.3.trans k3.3), ?_, fun c hc hn2 => ?_⟩
    · have := k3.size
      have := k4.size
      have := ks.size
      omega
    · have hs3 := k3.size
      have hs4 := k4.size
      have hcs : c ≠ s := fun e => hn2 (.inl e)
      have hcq : c ≠ q3 := fun e => by
        rcases n3 c (.inr (by rw [e])) with h | h
        · exact hn2 h
        · omega
      rw [ks.block c (by omega) hcs, k4.block c (by omega) hcq]
      exact k3.block c hc hn2

set_option maxHeartbeats 4000000 in
set_option maxRecDepth 100000 in
theorem add_old {W : World} {B0 s : Nat} {g : Option Nat} {R : List Nat} (h : NS W B0 s g R) (n : Nat) (hn : R[n]? = some 1) (hR : R.length ≤ 16777217) :
    Calls Try.prog 30 #[.pointer (some ⟨s, 0, none⟩), .int .i64 n] W fun e W' => (∃ v, e = .returned v) ∧ ∃ g' R', AdS W W' B0 s g R n g' R' := by
  have HC := hide (i_has h n true (by simp [hn]) hR)
  have HH := hide h
  clear h
  go_enter Try.func30, Try.ntmps30
  go_wp2_with (go_at_call 29; refine HC.out.mono ?_; rintro e W1 ⟨rfl, b1⟩)
  refine bodyPost_ret (results_none rfl _ _ _) rfl ?_
  refine ⟨⟨_, rfl⟩, g, R, HH.out.kept (kt (S := fun _ => True) b1) (fun _ _ => trivial), fun k => ⟨fun h => .inl h, fun h => h.elim id (fun e => by rw [e]; exact hn)⟩, .inl (Nat.le_refl _), kt b1, fun c h => .inl h⟩

set_option maxHeartbeats 4000000 in
set_option maxRecDepth 100000 in
theorem add_new {W : World} {B0 s : Nat} {g : Option Nat} {R : List Nat} (h : NS W B0 s g R) (n : Nat) (hn : ¬ R[n]? = some 1) (hR : R.length ≤ 16777217) (hn2 : n ≤ 16777216) (hB : B0 ≤ W.heap.size) :
    Calls Try.prog 30 #[.pointer (some ⟨s, 0, none⟩), .int .i64 n] W fun e W' => (∃ v, e = .returned v) ∧ ∃ g' R', AdS W W' B0 s g R n g' R' := by
  have HC := hide (i_has h n false (by simp [hn]) hR)
  obtain ⟨l, hl⟩ : ∃ l, l = R.length := ⟨_, rfl⟩
  have HH := hide h
  have HB := hide hB
  have HR := hide hR
  have hln : l ≤ 16777217 := by omega
  have HL := hide hl
  clear h hn hR hB hl
  go_enter Try.func30, Try.ntmps30
  go_upto_region 1 with (go_at_call 29; refine HC.out.mono ?_; rintro e W1 ⟨rfl, b1⟩)
  have H1 := hide (HH.out.kept (kt (S := fun _ => True) b1) (fun _ _ => trivial))
  have B1 := hide b1
  clear b1
  obtain ⟨a, c, p0, po, pg⟩ := H1.out.r
  rw [List.length_map, ← HL.out] at p0 po pg
  by_cases hm : l < n + 1
  · obtain ⟨m, hm2⟩ : ∃ m : Nat, m = n + 1 - l := ⟨_, rfl⟩
    have hw : (n : Int) + 1 - (l : Int) = (m : Int) := by omega
    have hm3 : (0 : Int) < (m : Int) := by omega
    have hm4 : 0 < m := by omega
    have ys : (R.map iv ++ List.replicate m (Value.int .i64 0)).length = l + m := by rw [List.length_append, List.length_map, List.length_replicate, ← HL.out]
    have F2 : Hid (∀ g7 cap w3, w3.ownsRow B0 3 1 (.slice (some ⟨g7, 0, none⟩) (l + m) cap) (l + m) (R.map iv ++ List.replicate m (.int .i64 0)) → W1.grownBy w3 (Value.slice a l c).ownBlock → ((Value.slice a l c).ownBlock = some g7 ∨ g7 = W1.heap.size) →
        (w3.cell? ⟨s, 0, none⟩ = some (.slice a l c) ∧ w3.frozen? ⟨s, 0, none⟩ = W1.frozen? ⟨s, 0, none⟩) ∧ OR (w3.setCell ⟨s, 0, none⟩ (.slice (some ⟨g7, 0, none⟩) (l + m) cap)) B0 s 0 3 (R.map iv ++ List.replicate m (.int .i64 0)) (some g7) ∧
      Kept (fun c => c ≠ s ∧ g ≠ some c) W1 (w3.setCell ⟨s, 0, none⟩ (.slice (some ⟨g7, 0, none⟩) (l + m) cap)) ∧ (∀ k, k ≠ 0 → (w3.setCell ⟨s, 0, none⟩ (.slice (some ⟨g7, 0, none⟩) (l + m) cap)).cell? ⟨s, k, none⟩ = W1.cell? ⟨s, k, none⟩) ∧
      (∀ k, (w3.setCell ⟨s, 0, none⟩ (.slice (some ⟨g7, 0, none⟩) (l + m) cap)).frozen? ⟨s, k, none⟩ = W1.frozen? ⟨s, k, none⟩) ∧ (g = some g7 ∨ W1.heap.size ≤ g7)) := fun g7 cap w3 hO hG hat => by
      have e1 : (R.map iv).length = l := by rw [List.length_map, ← HL.out]
      have := or_more (xs := R.map iv) (a := a) (c := c) (g := g) (e := 3) (B0 := B0) (ys := R.map iv ++ List.replicate m (.int .i64 0)) (cap := cap) (g7 := g7) (w := W1) (w3 := w3) (b := s) (j := 0) (by rw [e1]; exact p0) (by rw [e1]; exact pg) H1.out.ne (by rw [ys]; exact hO) (by rw [e1]; exact hG) (by rw [e1]; exact hat)
      rw [ys, e1] at this
      exact this
    have PO := hide po
    have y0 := H1.out.fz 0
    have h63 : Hid (l + m ≤ maxLen ∧ (l + m) * 8 ≤ 140737488355328) := by unfold Hid maxLen; omega
    have BB : Hid (B0 ≤ W1.heap.size) := Nat.le_trans HB.out B1.out.size
    have YS := hide ys
    have PG := hide pg
    have HM2 := hide hm2
    clear po ys pg hm2
    go_upto_region 4 with (at_builtin; refine zs_step rfl _ _ 53 3 3 rfl Try.info3 Try.underlying53 Try.underlying3 rfl rfl B0 W1 (.slice a l c) l m (R.map iv) rfl rfl hm4 BB.out PO.out h63.out.1 h63.out.2 ?_; intro q2 k2 v2 hO hG hat; have A2 := hide (F2.out q2 k2 v2 hO hG hat); have x2 := A2.out.1.1; have u2 := A2.out.1.2.trans y0; clear hO hG hat)
    obtain ⟨W3, hW3⟩ : ∃ V, v2.setCell ⟨s, 0, none⟩ (.slice (some ⟨q2, 0, none⟩) (l + m) k2) = V := ⟨_, rfl⟩
    have A3 := hide A2.out.2
    rw [hW3] at A3 ⊢
    obtain ⟨R3, hR3⟩ : ∃ R3, R3 = R ++ List.replicate m 0 := ⟨_, rfl⟩
    have e1 : R3.map iv = R.map iv ++ List.replicate m (.int .i64 0) := by
      rw [hR3, List.map_append, List.map_replicate]
      rfl
    have H3 : Hid (NS W3 B0 s (some q2) R3) := by
      obtain ⟨a1, a2, a3, a4, a5⟩ := A3.out
      obtain ⟨z, hz⟩ := H1.out.c2
      refine ⟨by rw [e1]; exact a1, (a3 1 (by decide)).trans H1.out.c1, ⟨z, (a3 2 (by decide)).trans hz⟩, fun j => (a4 j).trans (H1.out.fz j), ?_, H1.out.lo⟩
      rcases a5 with e | e
      · rw [← e]
        exact H1.out.ne
      · have := H1.out.r.lt
        exact fun e2 => by have := Option.some.inj e2; omega
    have L3 : Hid (n < R3.length ∧ R3.length = n + 1) := by
      have h1 := HM2.out
      have h2 := HL.out
      unfold Hid
      rw [hR3, List.length_append, List.length_replicate]
      omega
    have M3 : Hid (∀ k : Nat, R3[k]? = some 1 ↔ R[k]? = some 1) := fun k => by
      rw [hR3, List.getElem?_append]
      split
      · exact Iff.rfl
      · rename_i hk
        rw [List.getElem?_eq_none (l := R) (by omega), List.getElem?_replicate]
        split <;> simp
    have K3 : Hid (Kept (fun c => ¬ OwnS s g c) W W3) := (kt B1.out).trans (A3.out.2.1.mono (fun c _ hc => ⟨fun e => hc (.inl e), fun e => hc (.inr e)⟩))
    have N3 : Hid (∀ c, OwnS s (some q2) c → OwnS s g c ∨ W.heap.size ≤ c) := fun c hc => by
      rcases hc with e | e
      · exact .inl (.inl e)
      · have e2 : q2 = c := Option.some.inj e
        rcases A3.out.2.2.2.2 with e3 | e3
        · exact .inl (.inr (by rw [← e2]; exact e3))
        · exact .inr (by have := B1.out.size; omega)
    have LE3 : Hid (R3.length ≤ R.length ∨ R3.length = n + 1) := .inr L3.out.2
    clear p0 hm hw hm3 hm4 y0 x2 u2 hW3 hR3 e1
    replace L3 : Hid (n < R3.length) := L3.out.1
    clear HM2 A2 A3 YS PG PO F2 h63
    obtain ⟨q3, c3, e3, p0, pc, pf, -, -⟩ := H3.out.r.at_ (by rw [List.length_map]; have := L3.out; omega)
    obtain ⟨l3, hl3⟩ : ∃ l3, l3 = R3.length := ⟨_, rfl⟩
    rw [List.length_map, ← hl3] at p0
    have p1 := H3.out.c1
    obtain ⟨r3, hr3⟩ : ∃ r, R3[n]? = some r := ⟨_, List.getElem?_eq_getElem L3.out⟩
    have pn : W3.cell? ⟨q3, n, none⟩ = some (.int .i64 (r3 : Int)) := pc n _ (by rw [List.getElem?_map, hr3]; rfl)
    have fn := pf n
    have hnl : (n : Int) < (l3 : Int) := by have := L3.out; omega
    have hnl2 : n < l3 := by have := L3.out; omega
    obtain ⟨z, hz⟩ := H3.out.c2
    have fz2 := H3.out.fz 2
    have hqs : Hid (s ≠ q3) := fun e => H3.out.ne (by rw [e3, e])
    obtain ⟨W4, hW4⟩ : ∃ V, (W3.setCell ⟨q3, n, none⟩ (.int .i64 1)).drew = V := ⟨_, rfl⟩
    have k4 : Kept (fun c => c ≠ q3) W3 W4 := by rw [← hW4]; exact (Kept.setCell _ _ _ _ (fun hx => hx rfl)).trans (Kept.drew _ _)
    have hsl := H3.out.r.lt
    have z4 : W4.cell? ⟨s, 2, none⟩ = some (.int .i64 z) := (k4.cell (p := ⟨s, 2, none⟩) hsl hqs.out).trans hz
    have y4 : W4.frozen? ⟨s, 2, none⟩ = false := (k4.frozen (p := ⟨s, 2, none⟩) hsl hqs.out).trans fz2
    have HW4 := hide hW4
    have K4 := hide k4
    have E3 := hide e3
    have HL3 := hide hl3
    have HSL := hide hsl
    clear pc pf hz fz2 hr3 k4 hsl hW4 e3 hl3
    go_region
    all_goals
      rw [HW4.out]
      go_wp2_with fail
      go_end0
      exact ⟨⟨_, rfl⟩, some q3, R3.set n 1, AdS.done H3.out E3.out hqs.out L3.out M3.out K3.out N3.out LE3.out HW4.out _⟩
  · obtain ⟨W3, hW3⟩ : ∃ V, V = W1 := ⟨_, rfl⟩
    have hw : ¬ (0 : Int) < (n : Int) + 1 - (l : Int) := by omega
    clear po pg
    go_upto_region 4 with fail
    obtain ⟨R3, hR3⟩ : ∃ R3, R3 = R := ⟨_, rfl⟩
    have H3 : Hid (NS W3 B0 s g R3) := by rw [hW3, hR3]; exact H1.out
    have L3 : Hid (n < R3.length) := by
      have h2 := HL.out
      unfold Hid
      rw [hR3]
      omega
    have M3 : Hid (∀ k : Nat, R3[k]? = some 1 ↔ R[k]? = some 1) := fun k => by rw [hR3]
    have K3 : Hid (Kept (fun c => ¬ OwnS s g c) W W3) := by rw [hW3]; exact kt B1.out
    have N3 : Hid (∀ c, OwnS s g c → OwnS s g c ∨ W.heap.size ≤ c) := fun c hc => .inl hc
    have LE3 : Hid (R3.length ≤ R.length ∨ R3.length = n + 1) := by rw [hR3]; exact .inl (Nat.le_refl _)
    rw [← hW3]
    clear p0 hm hw hR3 hW3
    obtain ⟨q3, c3, e3, p0, pc, pf, -, -⟩ := H3.out.r.at_ (by rw [List.length_map]; have := L3.out; omega)
    obtain ⟨l3, hl3⟩ : ∃ l3, l3 = R3.length := ⟨_, rfl⟩
    rw [List.length_map, ← hl3] at p0
    have p1 := H3.out.c1
    obtain ⟨r3, hr3⟩ : ∃ r, R3[n]? = some r := ⟨_, List.getElem?_eq_getElem L3.out⟩
    have pn : W3.cell? ⟨q3, n, none⟩ = some (.int .i64 (r3 : Int)) := pc n _ (by rw [List.getElem?_map, hr3]; rfl)
    have fn := pf n
    have hnl : (n : Int) < (l3 : Int) := by have := L3.out; omega
    have hnl2 : n < l3 := by have := L3.out; omega
    obtain ⟨z, hz⟩ := H3.out.c2
    have fz2 := H3.out.fz 2
    have hqs : Hid (s ≠ q3) := fun e => H3.out.ne (by rw [e3, e])
    obtain ⟨W4, hW4⟩ : ∃ V, (W3.setCell ⟨q3, n, none⟩ (.int .i64 1)).drew = V := ⟨_, rfl⟩
    have k4 : Kept (fun c => c ≠ q3) W3 W4 := by rw [← hW4]; exact (Kept.setCell _ _ _ _ (fun hx => hx rfl)).trans (Kept.drew _ _)
    have hsl := H3.out.r.lt
    have z4 : W4.cell? ⟨s, 2, none⟩ = some (.int .i64 z) := (k4.cell (p := ⟨s, 2, none⟩) hsl hqs.out).trans hz
    have y4 : W4.frozen? ⟨s, 2, none⟩ = false := (k4.frozen (p := ⟨s, 2, none⟩) hsl hqs.out).trans fz2
    have HW4 := hide hW4
    have K4 := hide k4
    have E3 := hide e3
    have HL3 := hide hl3
    have HSL := hide hsl
    clear pc pf hz fz2 hr3 k4 hsl hW4 e3 hl3
    go_region
    all_goals
      rw [HW4.out]
      go_wp2_with fail
      go_end0
      exact ⟨⟨_, rfl⟩, some q3, R3.set n 1, AdS.done H3.out E3.out hqs.out L3.out M3.out K3.out N3.out LE3.out HW4.out _⟩

end Go.Proofs.Ytcnokpaicnjkfaa.F

namespace Go.Proofs.Ytcnokpaicnjkfaa.F
open Go.RowKit Go.Joins

/-- What number leaves. -/
structure Nu (W W' : World) (B0 b M : Nat) (g1 g2 g3 : Option Nat) (T : List ByteArray) (L : List Nat) (x : ByteArray) (i : Nat) (T' : List ByteArray) (L' : List Nat) (h1 h2 h3 : Option Nat) : Prop where
  nb : NB W' B0 b M h1 h2 h3 T' L'
  at_ : T'[i]? = some x
  ext : (T' = T ∧ L' = L) ∨ (¬ x ∈ T ∧ T' = T ++ [x] ∧ L' = L ++ [0])
  ch : Ch W W' b M g1 g2 g3 h1 h2 h3

theorem i_number {W : World} {B0 b M : Nat} {g1 g2 g3 : Option Nat} {T : List ByteArray} {L : List Nat} (h : NB W B0 b M g1 g2 g3 T L) (x : ByteArray) (hx : x.size ≤ 16777216) (hT : T.length ≤ 16777216) (hB : B0 ≤ W.heap.size) :
    Calls Try.prog 48 #[.pointer (some ⟨b, 0, none⟩), .string x] W fun e W' => ∃ (i : Nat) (T' : List ByteArray) (L' : List Nat) (h1 h2 h3 : Option Nat), e = .returned (.int .i64 i) ∧ Nu W W' B0 b M g1 g2 g3 T L x i T' L' h1 h2 h3 := by
  by_cases hm : x ∈ T
  · obtain ⟨i, hi⟩ := List.getElem?_of_mem hm
    refine (num_old h x i hi).mono ?_
    rintro e W' ⟨rfl, rfl⟩
    exact ⟨i, T, L, g1, g2, g3, rfl, h, hi, .inl ⟨rfl, rfl⟩, Ch.refl _ _ _ _ _ _⟩
  · refine (num_new h x hm hx hT hB).mono ?_
    rintro e W' ⟨rfl, h1, h2, h3, n1, n2⟩
    exact ⟨T.length, T ++ [x], L ++ [0], h1, h2, h3, rfl, n1, by simp, .inr ⟨hm, rfl, rfl⟩, n2⟩

/-- Of each name the next one, where it is known. -/
def LI (T : List ByteArray) (L : List Nat) : Prop := ∀ (i n : Nat) (t : ByteArray), L[i]? = some n → n ≠ 0 → T[i]? = some t → T[n]? = some (t ++ ⟨#[39]⟩)

theorem pre_get {T T' : List ByteArray} (h : T <+: T') {i : Nat} {t : ByteArray} (hi : T[i]? = some t) : T'[i]? = some t := by
  obtain ⟨S, rfl⟩ := h
  rw [List.getElem?_append_left (List.getElem?_eq_some_iff.1 hi).1]
  exact hi

theorem Nu.pre {W W' : World} {B0 b M : Nat} {g1 g2 g3 : Option Nat} {T : List ByteArray} {L : List Nat} {x : ByteArray} {i : Nat} {T' : List ByteArray} {L' : List Nat} {h1 h2 h3 : Option Nat} (h : Nu W W' B0 b M g1 g2 g3 T L x i T' L' h1 h2 h3) : T <+: T' ∧ T'.length ≤ T.length + 1 := by
  rcases h.ext with ⟨e, -⟩ | ⟨-, e, -⟩
  · rw [e]
    exact ⟨List.prefix_rfl, Nat.le_succ _⟩
  · rw [e]
    exact ⟨List.prefix_append _ _, by simp⟩

theorem Nu.li {W W' : World} {B0 b M : Nat} {g1 g2 g3 : Option Nat} {T : List ByteArray} {L : List Nat} {x : ByteArray} {i : Nat} {T' : List ByteArray} {L' : List Nat} {h1 h2 h3 : Option Nat} (h : Nu W W' B0 b M g1 g2 g3 T L x i T' L' h1 h2 h3) (hl : L.length = T.length) (hi : LI T L) : LI T' L' := by
  rcases h.ext with ⟨e, e2⟩ | ⟨-, e, e2⟩
  · rw [e, e2]
    exact hi
  · rw [e, e2]
    intro j n t h1 h2 h3
    rw [List.getElem?_append] at h1 h3
    split at h1
    · rename_i hj
      rw [if_pos (by omega)] at h3
      exact pre_get (List.prefix_append _ _) (hi j n t h1 h2 h3)
    · rename_i hj
      rcases Nat.eq_or_lt_of_le (Nat.le_of_not_lt hj) with e9 | e9
      · rw [← e9, Nat.sub_self] at h1
        exact absurd (Option.some.inj h1).symm h2
      · rw [List.getElem?_eq_none (by simp; omega)] at h1
        cases h1

/-- A cell of the row of next ones is set. -/
theorem NB.setL {W : World} {B0 b M q : Nat} {g1 g3 : Option Nat} {T : List ByteArray} {L : List Nat} (h : NB W B0 b M g1 (some q) g3 T L) (i k : Nat) (hi : i < L.length) : NB (W.setCell ⟨q, i, none⟩ (.int .i64 (k : Int))) B0 b M g1 (some q) g3 T (L.set i k) ∧ Ch W (W.setCell ⟨q, i, none⟩ (.int .i64 (k : Int))) b M g1 (some q) g3 g1 (some q) g3 := by
  have a := h.nx.ap
  have hq := h.nx.lo q (.inr (.inr (.inr (.inl rfl))))
  have ks : Kept (fun c => c ≠ q) W (W.setCell ⟨q, i, none⟩ (.int .i64 (k : Int))) := Kept.setCell _ _ _ _ (fun hx => hx rfl)
  have hb := (h.nx.lo b (.inl rfl)).2
  have nb : b ≠ q := fun e => a.b2 (by rw [e])
  have nM : M ≠ q := fun e => a.m2 (by rw [e])
  have hc : ∀ j, (W.setCell ⟨q, i, none⟩ (.int .i64 (k : Int))).cell? ⟨b, j, none⟩ = W.cell? ⟨b, j, none⟩ := fun j => ks.cell (p := ⟨b, j, none⟩) hb nb
  refine ⟨⟨⟨(hc 0).trans h.nx.c0, h.nx.map.kept ks nM, h.nx.r1.keep ks (hc 1) (fun c e e2 => a.g12 c e (by rw [e2])), h.nx.r2.set nb i k hi, h.nx.r3.keep ks (hc 3) (fun c e e2 => a.g23 q rfl (by rw [← e2]; exact e)), fun j => (ks.frozen (p := ⟨b, j, none⟩) hb nb).trans (h.nx.fz j), a, fun c hcc => ⟨(h.nx.lo c hcc).1, Nat.lt_of_lt_of_le (h.nx.lo c hcc).2 ks.size⟩⟩, h.nd, by rw [List.length_set]; exact h.len⟩, ⟨ks.mono (fun c _ hn e => hn (.inr (.inr (.inr (.inl (by rw [e])))))), fun _ hc => .inl hc⟩⟩

/-- What oneLonger leaves. -/
structure Ol (W W' : World) (B0 b M : Nat) (g1 g2 g3 : Option Nat) (T : List ByteArray) (t : ByteArray) (k : Nat) (T' : List ByteArray) (L' : List Nat) (h1 h2 h3 : Option Nat) : Prop where
  nb : NB W' B0 b M h1 h2 h3 T' L'
  li : LI T' L'
  at_ : T'[k]? = some (t ++ ⟨#[39]⟩)
  pre : T <+: T'
  len : T'.length ≤ T.length + 1
  ch : Ch W W' b M g1 g2 g3 h1 h2 h3

end Go.Proofs.Ytcnokpaicnjkfaa.F

namespace Go.Proofs.Ytcnokpaicnjkfaa.F
open Go.RowKit Go.Joins

/-- A book and a set of its numbers: those of the texts of A. -/
structure FJ (w : World) (B0 b M : Nat) (g1 g2 g3 : Option Nat) (s : Nat) (g : Option Nat) (T : List ByteArray) (L R : List Nat) (A : List ByteArray) : Prop where
  nb : NB w B0 b M g1 g2 g3 T L
  li : LI T L
  ns : NS w B0 s g R
  dj : ∀ c, OwnS s g c → ¬ OwnB b M g1 g2 g3 c
  rel : ∀ n : Nat, R[n]? = some 1 ↔ ∃ t, T[n]? = some t ∧ t ∈ A
  sub : ∀ t ∈ A, t ∈ T
  rl : R.length ≤ T.length

theorem nodup_get {T : List ByteArray} (h : T.Nodup) {m n : Nat} {t : ByteArray} (h1 : T[m]? = some t) (h2 : T[n]? = some t) : m = n := by
  obtain ⟨a1, a2⟩ := List.getElem?_eq_some_iff.1 h1
  obtain ⟨b1, b2⟩ := List.getElem?_eq_some_iff.1 h2
  rcases Nat.lt_trichotomy m n with e | e | e
  · exact absurd (a2.trans b2.symm) (List.pairwise_iff_getElem.1 h m n a1 b1 e)
  · exact e
  · exact absurd (b2.trans a2.symm) (List.pairwise_iff_getElem.1 h n m b1 a1 e)

theorem NS.hi {w : World} {B0 s : Nat} {g : Option Nat} {R : List Nat} (h : NS w B0 s g R) (c : Nat) (hc : OwnS s g c) : B0 ≤ c ∧ c < w.heap.size := by
  rcases hc with e | e
  · rw [e]
    exact ⟨h.lo, h.r.lt⟩
  · exact h.r.bl c e

/-- The book grows. -/
theorem FJ.ext {w w' : World} {B0 b M s : Nat} {g1 g2 g3 h1 h2 h3 g : Option Nat} {T T' : List ByteArray} {L L' R : List Nat} {A : List ByteArray} (h : FJ w B0 b M g1 g2 g3 s g T L R A) (nb : NB w' B0 b M h1 h2 h3 T' L') (li : LI T' L') (hp : T <+: T') (ch : Ch w w' b M g1 g2 g3 h1 h2 h3) : FJ w' B0 b M h1 h2 h3 s g T' L' R A := by
  refine ⟨nb, li, h.ns.kept ch.kept h.dj, fun c hc hb => ?_, fun n => ⟨fun hn => ?_, fun hn => ?_⟩, fun t ht => hp.subset (h.sub t ht), Nat.le_trans h.rl hp.length_le⟩
  · rcases ch.new c hb with e | e
    · exact h.dj c hc e
    · have := (h.ns.hi c hc).2
      omega
  · obtain ⟨t, a, b⟩ := (h.rel n).1 hn
    exact ⟨t, pre_get hp a, b⟩
  · obtain ⟨t, a, b⟩ := hn
    obtain ⟨m, hm⟩ := List.getElem?_of_mem (h.sub t b)
    have e := nodup_get nb.nd (pre_get hp hm) a
    rw [e] at hm
    exact (h.rel n).2 ⟨t, hm, b⟩

/-- The set grows. -/
theorem FJ.more {w w' : World} {B0 b M s i : Nat} {g1 g2 g3 g g' : Option Nat} {T : List ByteArray} {L R R' : List Nat} {A : List ByteArray} {x : ByteArray} (h : FJ w B0 b M g1 g2 g3 s g T L R A) (hi : T[i]? = some x) (a : AdS w w' B0 s g R i g' R') : FJ w' B0 b M g1 g2 g3 s g' T L R' (A ++ [x]) := by
  refine ⟨h.nb.kept a.kept (fun c hc hs => h.dj c hs hc), h.li, a.ns, fun c hc hb => ?_, fun n => ⟨fun hn => ?_, fun hn => ?_⟩, fun t ht => ?_, ?_⟩
  · rcases a.new c hc with e | e
    · exact h.dj c e hb
    · have := (h.nb.nx.lo c hb).2
      omega
  · rcases (a.mem n).1 hn with e | e
    · obtain ⟨t, p, q⟩ := (h.rel n).1 e
      exact ⟨t, p, List.mem_append.2 (.inl q)⟩
    · rw [e]
      exact ⟨x, hi, by simp⟩
  · obtain ⟨t, p, q⟩ := hn
    rcases List.mem_append.1 q with e | e
    · exact (a.mem n).2 (.inl ((h.rel n).2 ⟨t, p, e⟩))
    · rw [List.mem_singleton] at e
      rw [e] at p
      exact (a.mem n).2 (.inr (nodup_get h.nb.nd p hi))
  · rcases List.mem_append.1 ht with e | e
    · exact h.sub t e
    · rw [List.mem_singleton] at e
      rw [e]
      exact List.mem_of_getElem? hi
  · rcases a.len with e | e
    · exact Nat.le_trans e h.rl
    · have := (List.getElem?_eq_some_iff.1 hi).1
      omega

theorem FJ.keep {w w' : World} {B0 b M s : Nat} {g1 g2 g3 g : Option Nat} {T : List ByteArray} {L R : List Nat} {A : List ByteArray} (h : FJ w B0 b M g1 g2 g3 s g T L R A) (k : Below w.heap.size w w') : FJ w' B0 b M g1 g2 g3 s g T L R A :=
  ⟨h.nb.kept (kt (S := fun _ => True) k) (fun _ _ => trivial), h.li, h.ns.kept (kt (S := fun _ => True) k) (fun _ _ => trivial), h.dj, h.rel, h.sub, h.rl⟩

/-- Both, wherever they lie. -/
def FS (W0 w : World) (b s : Nat) (T A : List ByteArray) : Prop := ∃ M g1 g2 g3 g L R, FJ w W0.heap.size b M g1 g2 g3 s g T L R A ∧ Below W0.heap.size W0 w

theorem below_own {W0 w w' : World} (h : Below W0.heap.size W0 w) {S : Nat → Prop} (k : Kept S w w') (hS : ∀ c, ¬ S c → W0.heap.size ≤ c) : Below W0.heap.size W0 w' :=
  Below.kept h k (fun c hc => Classical.byContradiction fun hn => by have := hS c hn; omega) (Nat.le_refl _)

theorem FS.number {W0 w : World} {b s : Nat} {T A : List ByteArray} (h : FS W0 w b s T A) (x : ByteArray) (hx : x.size ≤ 16777216) (hT : T.length ≤ 16777216) :
    Calls Try.prog 48 #[.pointer (some ⟨b, 0, none⟩), .string x] w fun e w' => ∃ (i : Nat) (T' : List ByteArray), e = .returned (.int .i64 i) ∧ T'[i]? = some x ∧ T <+: T' ∧ T'.length ≤ T.length + 1 ∧ FS W0 w' b s T' A := by
  obtain ⟨M, g1, g2, g3, g, L, R, hj, hb⟩ := h
  refine (i_number hj.nb x hx hT hb.size).mono ?_
  rintro e w' ⟨i, T', L', h1, h2, h3, rfl, nu⟩
  exact ⟨i, T', rfl, nu.at_, nu.pre.1, nu.pre.2, M, h1, h2, h3, g, L', R, hj.ext nu.nb (nu.li hj.nb.len hj.li) nu.pre.1 nu.ch, below_own hb nu.ch.kept (fun c hc => (hj.nb.nx.lo c (Classical.not_not.1 hc)).1)⟩

theorem FS.add {W0 w : World} {b s : Nat} {T A : List ByteArray} (h : FS W0 w b s T A) (x : ByteArray) (i : Nat) (hi : T[i]? = some x) (hT : T.length ≤ 16777216) :
    Calls Try.prog 30 #[.pointer (some ⟨s, 0, none⟩), .int .i64 i] w fun e w' => (∃ v, e = .returned v) ∧ FS W0 w' b s T (A ++ [x]) := by
  obtain ⟨M, g1, g2, g3, g, L, R, hj, hb⟩ := h
  have hil := (List.getElem?_eq_some_iff.1 hi).1
  have hrl := hj.rl
  have fin : ∀ (e : Ending) (w' : World), (∃ v : Value, e = .returned v) ∧ (∃ g' R', AdS w w' W0.heap.size s g R i g' R') → (∃ v, e = .returned v) ∧ FS W0 w' b s T (A ++ [x]) := by
    rintro e w' ⟨hv, g', R', a⟩
    exact ⟨hv, M, g1, g2, g3, g', L, R', hj.more hi a, below_own hb a.kept (fun c hc => (hj.ns.hi c (Classical.not_not.1 hc)).1)⟩
  by_cases hm : R[i]? = some 1
  · exact (add_old hj.ns i hm (by omega)).mono (fun e w' h => fin e w' h)
  · exact (add_new hj.ns i hm (by omega) (by omega) hb.size).mono (fun e w' h => fin e w' h)

theorem FS.has {W0 w : World} {b s : Nat} {T A : List ByteArray} (h : FS W0 w b s T A) (x : ByteArray) (i : Nat) (hi : T[i]? = some x) (hT : T.length ≤ 16777216) (q : Bool) (hq : q = true ↔ x ∈ A) :
    Calls Try.prog 29 #[.pointer (some ⟨s, 0, none⟩), .int .i64 i] w fun e w' => e = .returned (.bool q) ∧ FS W0 w' b s T A := by
  obtain ⟨M, g1, g2, g3, g, L, R, hj, hb⟩ := h
  have hrl := hj.rl
  refine (i_has hj.ns i q ?_ (by omega)).mono ?_
  · rw [hq, hj.rel i]
    exact ⟨fun h => ⟨x, hi, h⟩, fun ⟨t, h1, h2⟩ => by rw [hi] at h1; rw [Option.some.inj h1]; exact h2⟩
  · rintro e w' ⟨rfl, k⟩
    exact ⟨rfl, M, g1, g2, g3, g, L, R, hj.keep k, hb.trans (k.mono hb.size)⟩

end Go.Proofs.Ytcnokpaicnjkfaa.F

namespace Go.Proofs.Ytcnokpaicnjkfaa.F
open Go.RowKit Go.Joins

set_option maxHeartbeats 4000000 in
set_option maxRecDepth 100000 in
/-- A new set. -/
theorem i_empty {W : World} {B0 s : Nat} (h : Bx W s [.slice none 0 0, .int .i64 0, .int .i64 0]) (hs : B0 ≤ s) :
    Calls Try.prog 25 #[.pointer (some ⟨s, 0, none⟩)] W fun e W' => (∃ v, e = .returned v) ∧ NS W' B0 s none [] ∧ Kept (fun c => c ≠ s) W W' := by
  have p1 := h.cel 1 _ rfl
  have p2 := h.cel 2 _ rfl
  have f1 := h.live 1
  have f2 := h.live 2
  have HE : Hid (NS ((W.setCell ⟨s, 1, none⟩ (.int .i64 1)).setCell ⟨s, 2, none⟩ (.int .i64 0)) B0 s none [] ∧ Kept (fun c => c ≠ s) W ((W.setCell ⟨s, 1, none⟩ (.int .i64 1)).setCell ⟨s, 2, none⟩ (.int .i64 0))) := by
    refine ⟨⟨⟨none, 0, ?_, World.ownsRow_nil _ _ _ _, rfl⟩, ?_, ⟨0, ?_⟩, fun j => ?_, by simp, hs⟩, (Kept.setCell _ _ _ _ (fun hx => hx rfl)).trans (Kept.setCell _ _ _ _ (fun hx => hx rfl))⟩
    · rw [World.cell?_setCell_other _ _ _ _ (by simp), World.cell?_setCell_other _ _ _ _ (by simp)]
      exact h.cel 0 _ rfl
    · rw [World.cell?_setCell_other _ _ _ _ (by simp)]
      exact World.cell?_setCell_same _ _ _ p1
    · exact World.cell?_setCell_same _ _ _ (by rw [World.cell?_setCell_other _ _ _ _ (by simp)]; exact p2)
    · rw [World.frozen?_setCell, World.frozen?_setCell]
      exact h.live j
  clear h
  go_enter Try.func25, Try.ntmps25
  go_wp2_with fail
  go_end0
  exact ⟨⟨_, rfl⟩, HE.out⟩

set_option maxHeartbeats 4000000 in
set_option maxRecDepth 100000 in
/-- A new book. -/
theorem i_book (W : World) : Calls Try.prog 24 #[] W fun e W' => ∃ b M g1 g2 g3, e = .returned (.pointer (some ⟨b, 0, none⟩)) ∧ NB W' W.heap.size b M g1 g2 g3 [⟨#[]⟩] [0] ∧ Below W.heap.size W W' := by
  obtain ⟨V, hV⟩ : ∃ V, (W.alloc (.map #[] 0)).alloc (.cells #[.map (some W.heap.size), .slice none 0 0, .slice none 0 0, .slice none 0 0] 64) = V := ⟨_, rfl⟩
  have hz : (W.alloc (.map #[] 0)).heap.size = W.heap.size + 1 := by simp
  have bx : Bx V (W.heap.size + 1) [.map (some W.heap.size), .slice none 0 0, .slice none 0 0, .slice none 0 0] := by
    rw [← hV, ← hz]
    exact Bx.new _ _ _
  have bw : Below W.heap.size W V := by
    rw [← hV]
    exact (below_alloc1 _ _).trans ((below_alloc1 _ _).mono (by simp))
  have hm : MS V W.heap.size [] := by
    rw [← hV]
    exact (MS.start W).kept (Kept.alloc (fun _ => True) _ _) trivial
  have nb : NB V W.heap.size (W.heap.size + 1) W.heap.size none none none [] [] := by
    refine ⟨⟨bx.cel 0 _ rfl, hm, ⟨none, 0, bx.cel 1 _ rfl, World.ownsRow_nil _ _ _ _, rfl⟩, ⟨none, 0, bx.cel 2 _ rfl, World.ownsRow_nil _ _ _ _, rfl⟩, ⟨none, 0, bx.cel 3 _ rfl, World.ownsRow_nil _ _ _ _, rfl⟩, bx.live, ⟨by omega, by simp, by simp, by simp, by simp, by simp, by simp, by simp, by simp, by simp⟩, fun c hc => ?_⟩, List.nodup_nil, rfl⟩
    have := bx.lt
    rcases hc with e | e | e | e | e
    · omega
    · omega
    · cases e
    · cases e
    · cases e
  have HC := hide (num_new nb ⟨#[]⟩ (by simp) (by decide) (by simp) bw.size)
  have HB := hide bw
  have HNB := hide nb
  have HV := hide hV
  clear bx bw hm nb hV hz
  have hmk := run_makeMap36 W
  go_enter Try.func24, Try.ntmps24
  go_upto_region 2 with fail
  rw [HV.out]
  go_wp2_with (go_at_call 48; refine HC.out.mono ?_; rintro e W1 ⟨rfl, h1, h2, h3, n1, n2⟩)
  go_ret
  refine ⟨_, _, h1, h2, h3, rfl, n1, below_own HB.out n2.kept (fun c hc => (HNB.out.nx.lo c (Classical.not_not.1 hc)).1)⟩

end Go.Proofs.Ytcnokpaicnjkfaa.F
