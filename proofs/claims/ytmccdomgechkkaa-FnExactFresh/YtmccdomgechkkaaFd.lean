import Derived.Test.YtmccdomgechkkaaFc
import Derived.Test.YtmccdomgechkkaaShelf
import Derived.Test.YtmccdomgechkkaaKTostring
namespace Go.Proofs.Ytmccdomgechkkaa
open Go.RowKit Go.Joins

theorem i_clone (x : ByteArray) (w : World) (hx : x.size ≤ 16777216) : Calls Try.prog 16 #[.string x] w fun e w' => e = .returned (.string x) ∧ Below w.heap.size w w' := by
  have := Try.stringslite_Clone x w (by omega)
  go_enter Try.func16, Try.ntmps16
  go_wp2_with fail
  refine this.mono ?_
  rintro e w2 ⟨rfl, b2⟩
  go_wp2_with fail
  go_ret
  exact ⟨rfl, b2⟩

theorem Try.info3 : (Try.prog.info? 3).map (fun i => (i.zero, i.size, i.bytes)) = some (some (.int .i64 0), 1, 8) := by kernel_rfl

/-- A number as a value. -/
def iv (n : Nat) : Value := .int .i64 (n : Int)

/-- A book of names T, of each of which the next one is known or not. -/
structure NB (w : World) (B0 b M : Nat) (g1 g2 g3 : Option Nat) (T : List ByteArray) (L : List Nat) : Prop where
  nx : NX w B0 b M g1 g2 g3 (kvF T 0) (T.map Value.string) (L.map iv) (List.replicate T.length (.int .i64 0))
  nd : T.Nodup
  len : L.length = T.length

theorem NB.kept {w w' : World} {B0 b M : Nat} {g1 g2 g3 : Option Nat} {T : List ByteArray} {L : List Nat} {S : Nat → Prop} (h : NB w B0 b M g1 g2 g3 T L) (k : Kept S w w') (hS : ∀ c, OwnB b M g1 g2 g3 c → S c) : NB w' B0 b M g1 g2 g3 T L := ⟨h.nx.kept k hS, h.nd, h.len⟩

/-- A new pair in the map. -/
theorem NX.put {w w' : World} {B0 b M : Nat} {g1 g2 g3 : Option Nat} {kv kv' : List (ByteArray × Value)} {X1 X2 X3 : List Value} (h : NX w B0 b M g1 g2 g3 kv X1 X2 X3) (hm : MS w' M kv') (hg : w.grownBy w' (some M)) : NX w' B0 b M g1 g2 g3 kv' X1 X2 X3 ∧ Ch w w' b M g1 g2 g3 g1 g2 g3 := by
  have a := h.ap
  have k : Kept (fun c => c ≠ M) w w' := Kept.grown hg (fun c hc hx => hx (Option.some.inj hc).symm)
  have hb := (h.lo b (.inl rfl)).2
  have hc : ∀ j, w'.cell? ⟨b, j, none⟩ = w.cell? ⟨b, j, none⟩ := fun j => k.cell (p := ⟨b, j, none⟩) hb a.bM
  exact ⟨⟨(hc 0).trans h.c0, hm, h.r1.keep k (hc 1) (fun c e e2 => a.m1 (by rw [e, e2])), h.r2.keep k (hc 2) (fun c e e2 => a.m2 (by rw [e, e2])), h.r3.keep k (hc 3) (fun c e e2 => a.m3 (by rw [e, e2])), fun j => (k.frozen (p := ⟨b, j, none⟩) hb a.bM).trans (h.fz j), a, fun c hcc => ⟨(h.lo c hcc).1, Nat.lt_of_lt_of_le (h.lo c hcc).2 k.size⟩⟩, ⟨k.mono (fun c _ hn e => hn (.inr (.inl e))), fun _ hc => .inl hc⟩⟩

set_option maxHeartbeats 2000000 in
set_option maxRecDepth 100000 in
/-- The number of a text that is known. -/
theorem num_old {W : World} {B0 b M : Nat} {g1 g2 g3 : Option Nat} {T : List ByteArray} {L : List Nat} (h : NB W B0 b M g1 g2 g3 T L) (x : ByteArray) (i : Nat) (hi : T[i]? = some x) :
    Calls Try.prog 13 #[.pointer (some ⟨b, 0, none⟩), .string x] W fun e W' => e = .returned (.int .i64 i) ∧ W' = W := by
  have h0 := h.nx.c0
  have hr := h.nx.map.lookL x (kv_some T 0 i h.nd hi) true
  rw [Nat.zero_add] at hr
  simp only [if_true] at hr
  clear h hi
  go_enter Try.func13, Try.ntmps13
  go_wp2_with fail
  go_ret
  exact ⟨rfl, rfl⟩

set_option maxHeartbeats 4000000 in
set_option maxRecDepth 100000 in
/-- The number of a new text. -/
theorem num_new {W : World} {B0 b M : Nat} {g1 g2 g3 : Option Nat} {T : List ByteArray} {L : List Nat} (h : NB W B0 b M g1 g2 g3 T L) (x : ByteArray) (hi : ¬ x ∈ T) (hx : x.size ≤ 16777216) (hT : T.length ≤ 16777216) (hB : B0 ≤ W.heap.size) :
    Calls Try.prog 13 #[.pointer (some ⟨b, 0, none⟩), .string x] W fun e W' => e = .returned (.int .i64 T.length) ∧ ∃ h1 h2 h3, NB W' B0 b M h1 h2 h3 (T ++ [x]) (L ++ [0]) ∧ Ch W W' b M g1 g2 g3 h1 h2 h3 := by
  have h0 := h.nx.c0
  have hr := h.nx.map.missL x (kv_none T 0 hi) true
  simp only [if_true] at hr
  obtain ⟨n, hn⟩ : ∃ n, n = T.length := ⟨_, rfl⟩
  obtain ⟨a1, c1, t1, -, -⟩ := h.nx.r1
  rw [List.length_map, ← hn] at t1
  have HC := hide (i_clone x W hx)
  have HH := hide h
  have HI := hide hi
  have HT := hide hT
  have HB := hide hB
  have HN := hide hn
  rw [← hn]
  clear h hi hx hT hB hn
  go_enter Try.func13, Try.ntmps13
  go_upto_region 4 with fail
  clear h0 hr t1
  go_upto_region 5 with (go_at_call 16; refine HC.out.mono ?_; rintro e W1 ⟨rfl, b1⟩)
  have n1 := HH.out.nx.kept (kt (S := fun _ => True) b1) (fun _ _ => trivial)
  have e1 := Ch.of_below b1 b M g1 g2 g3
  obtain ⟨W2, hu, m2, gr2⟩ := n1.map.putL x (kv_none T 0 HI.out) (.int .i64 n)
  obtain ⟨n2, e2⟩ := n1.put m2 gr2
  have z1 := n1.c0
  have H2 := hide n2
  have E2 := hide (e1.trans e2)
  have B2 : Hid (B0 ≤ W2.heap.size) := Nat.le_trans HB.out (e1.trans e2).kept.size
  clear n1 m2 gr2 n2 e1 e2 b1
  go_upto_region 6 with fail
  clear z1 hu
  have h63 : Hid (n + 1 ≤ maxLen ∧ (n + 1) * 16 ≤ 140737488355328) := by have h1 := HT.out; have h2 := HN.out; unfold Hid maxLen; omega
  have h64 : Hid (n + 1 ≤ maxLen ∧ (n + 1) * 8 ≤ 140737488355328) := by have h1 := HT.out; have h2 := HN.out; unfold Hid maxLen; omega
  obtain ⟨a3, c3, t3, o3, f3⟩ := or_grow H2.out.r1 H2.out.ap.b1 (.string x)
  rw [List.length_map, ← HN.out] at t3 o3 f3
  have O3 := hide o3
  have F3 := hide f3
  have y3 := H2.out.fz 1
  have Z3 : Hid (B0 ≤ (W2.alloc (.cells #[.string x] 9)).heap.size) := Nat.le_trans B2.out (by simp)
  clear o3 f3
  go_upto_region 7 with (at_builtin; refine ur_stepL rfl _ _ 22 9 rfl Try.info9 Try.underlying22 rfl (by decide) B0 (W2.alloc (.cells #[.string x] 9)) (.slice a3 n c3) n (T.map Value.string) [.string x] _ _ rfl rfl Z3.out O3.out (heap_new _ _) rfl (by simp [Value.oneCell']) h63.out.1 h63.out.2 ?_; intro q3 k3 v3 hO hG hat; have A3 := hide (F3.out q3 k3 v3 hO hG hat); have x3 := A3.out.1.1; have u3 := A3.out.1.2.trans y3; clear hO hG hat)
  obtain ⟨W3, hW3⟩ : ∃ V, v3.setCell ⟨b, 1, none⟩ (.slice (some ⟨q3, 0, none⟩) (n + 1) k3) = V := ⟨_, rfl⟩
  have G3 := hide (H2.out.grow1 A3.out.2)
  rw [hW3] at G3 ⊢
  have H3 : Hid (NX W3 B0 b M (some q3) g2 g3 (kvF T 0 ++ [(x, .int .i64 n)]) (T.map Value.string ++ [.string x]) (L.map iv) (List.replicate T.length (.int .i64 0))) := G3.out.1
  have B3 : Hid (B0 ≤ W3.heap.size) := Nat.le_trans B2.out G3.out.2.kept.size
  clear x3 u3 t3 y3 hW3
  obtain ⟨a4, c4, t4, o4, f4⟩ := or_grow H3.out.r2 H3.out.ap.b2 (.int .i64 0)
  rw [List.length_map, HH.out.len, ← HN.out] at t4 o4 f4
  have O4 := hide o4
  have F4 := hide f4
  have y4 := H3.out.fz 2
  have Z4 : Hid (B0 ≤ (W3.alloc (.cells #[.int .i64 0] 3)).heap.size) := Nat.le_trans B3.out (by simp)
  clear o4 f4
  go_upto_region 8 with (at_builtin; refine ur_stepL rfl _ _ 31 3 rfl Try.info3 Try.underlying31 rfl (by decide) B0 (W3.alloc (.cells #[.int .i64 0] 3)) (.slice a4 n c4) n (L.map iv) [.int .i64 0] _ _ rfl rfl Z4.out O4.out (heap_new _ _) rfl (by simp [Value.oneCell']) h64.out.1 h64.out.2 ?_; intro q4 k4 v4 hO hG hat; have A4 := hide (F4.out q4 k4 v4 hO hG hat); have x4 := A4.out.1.1; have u4 := A4.out.1.2.trans y4; clear hO hG hat)
  obtain ⟨W4, hW4⟩ : ∃ V, v4.setCell ⟨b, 2, none⟩ (.slice (some ⟨q4, 0, none⟩) (n + 1) k4) = V := ⟨_, rfl⟩
  have A4' := hide A4.out.2
  have hxx : (L.map iv).length = n := by rw [List.length_map, HH.out.len, ← HN.out]
  rw [hW4] at A4' ⊢
  have G4 := hide (H3.out.grow2 A4'.out)
  have H4 : Hid (NX W4 B0 b M (some q3) (some q4) g3 (kvF T 0 ++ [(x, .int .i64 n)]) (T.map Value.string ++ [.string x]) (L.map iv ++ [.int .i64 0]) (List.replicate T.length (.int .i64 0))) := G4.out.1
  have B4 : Hid (B0 ≤ W4.heap.size) := Nat.le_trans B3.out G4.out.2.kept.size
  clear x4 u4 t4 y4 hW4 hxx A4'
  obtain ⟨a5, c5, t5, o5, f5⟩ := or_grow H4.out.r3 H4.out.ap.b3 (.int .i64 0)
  rw [List.length_replicate, ← HN.out] at t5 o5 f5
  have O5 := hide o5
  have F5 := hide f5
  have y5 := H4.out.fz 3
  have Z5 : Hid (B0 ≤ (W4.alloc (.cells #[.int .i64 0] 3)).heap.size) := Nat.le_trans B4.out (by simp)
  clear o5 f5
  go_wp2_with (at_builtin; refine ur_stepL rfl _ _ 31 3 rfl Try.info3 Try.underlying31 rfl (by decide) B0 (W4.alloc (.cells #[.int .i64 0] 3)) (.slice a5 n c5) n (List.replicate n (.int .i64 0)) [.int .i64 0] _ _ rfl rfl Z5.out O5.out (heap_new _ _) rfl (by simp [Value.oneCell']) h64.out.1 h64.out.2 ?_; intro q5 k5 v5 hO hG hat; have A5 := hide (F5.out q5 k5 v5 hO hG hat); have x5 := A5.out.1.1; have u5 := A5.out.1.2.trans y5; clear hO hG hat)
  go_ret
  refine ⟨rfl, some q3, some q4, some q5, ⟨?_, ?_, ?_⟩, ((E2.out.trans G3.out.2).trans G4.out.2).trans (H4.out.grow3 (by rw [← HN.out]; exact A5.out.2)).2⟩
  · have hf := (H4.out.grow3 (by rw [← HN.out]; exact A5.out.2)).1
    rw [kv_app, Nat.zero_add, ← HN.out, List.map_append, List.map_append, List.length_append, List.length_singleton, ← HN.out, List.replicate_succ']
    rw [← HN.out] at hf
    exact hf
  · exact List.nodup_append.2 ⟨HH.out.nd, by simp, fun y hy z hz => by rw [List.mem_singleton] at hz; rw [hz]; exact fun e => HI.out (by rw [← e]; exact hy)⟩
  · rw [List.length_append, List.length_append, HH.out.len]
    rfl

end Go.Proofs.Ytmccdomgechkkaa
