import Derived.Test.YtmnligaelihmiaaGi
import Derived.Test.YtmnligaelihmiaaKa
import Derived.Test.YtmnligaelihmiaaGk
import Derived.Test.YtmnligaelihmiaaJb
namespace Go.Proofs.Ytmnligaelihmiaa
open Go.RowKit Go.Joins
/-- A source of draws at block p: k bytes, read as far as t. -/
def Src (w : World) (p k t : Nat) : Prop :=
  ∃ (a : Option Addr) (c : Nat) (z : Int), Bx w p [.slice a k c, .int .i64 t, .int .i64 z] ∧ k ≤ c ∧ c ≤ maxLen ∧
    (0 < k → ∃ b off, a = some ⟨b, off, none⟩ ∧ b < p ∧ ∃ g : Nat → Nat, ∀ i, i < k → g i < 256 ∧ w.cell? ⟨b, off + i, none⟩ = some (.int .u8 (g i)))
theorem Src.kept {w w' : World} {p k t : Nat} {S : Nat → Prop} (h : Src w p k t) (q : Kept S w w') (hS : ∀ c, c ≤ p → S c) : Src w' p k t := by
  obtain ⟨a, c, z, h1, h2, h3, h4⟩ := h
  refine ⟨a, c, z, h1.kept q (hS p (Nat.le_refl _)), h2, h3, fun hk => ?_⟩
  obtain ⟨b, off, e, hb, g, hg⟩ := h4 hk
  exact ⟨b, off, e, hb, g, fun i hi => ⟨(hg i hi).1, (q.cell (p := ⟨b, off + i, none⟩) (block_lt_of_cell (hg i hi).2) (hS b (by omega))).trans (hg i hi).2⟩⟩
theorem w64 (x : Int) (h0 : 0 ≤ x) (h1 : x < 10000000000) : wrap64 x = x := by
  have e1 : (-9223372036854775808 : Int) ≤ x := by omega
  have e2 : x ≤ (9223372036854775807 : Int) := by omega
  exact IntWalk.wrap64_in _ ⟨e1, e2⟩
theorem drawn1 (G Q : Nat) (hG : G < 256) (hQ : Q < 100000) : wrap64 ((G : Int) + wrap64 (wrap64 (Q : Int) * 37)) = ((G + Q * 37 : Nat) : Int) := by
  rw [w64 (Q : Int) (by omega) (by omega), w64 ((Q : Int) * 37) (by omega) (by omega), w64 _ (by omega) (by omega)]
  omega
theorem tmod_ex (X : Int) (n : Nat) (hX : 0 ≤ X) (hn : 0 < n) : ∃ r : Nat, r < n ∧ X.tmod (n : Int) = (r : Int) := by
  obtain ⟨x, rfl⟩ := Int.eq_ofNat_of_zero_le hX
  exact ⟨x % n, Nat.mod_lt _ hn, rfl⟩
theorem Src.set {w : World} {p k t : Nat} {a : Option Addr} {c : Nat} {z : Int} (h : Bx w p [.slice a k c, .int .i64 t, .int .i64 z]) (hc : k ≤ c) (hm : c ≤ maxLen)
    (hb : 0 < k → ∃ b off, a = some ⟨b, off, none⟩ ∧ b < p ∧ ∃ g : Nat → Nat, ∀ i, i < k → g i < 256 ∧ w.cell? ⟨b, off + i, none⟩ = some (.int .u8 (g i))) :
    Src (w.setCell ⟨p, 1, none⟩ (.int .i64 ((t : Int) + 1))) p k (t + 1) ∧ Kept (fun c => c ≠ p) w (w.setCell ⟨p, 1, none⟩ (.int .i64 ((t : Int) + 1))) := by
  have k1 : Kept (fun c => c ≠ p) w (w.setCell ⟨p, 1, none⟩ (.int .i64 ((t : Int) + 1))) := Kept.setCell _ _ _ _ (by simp)
  refine ⟨⟨a, c, z, h.put 1 (.int .i64 ((t : Int) + 1)) (by simp), hc, hm, fun hk => ?_⟩, k1⟩
  obtain ⟨b, off, e, hl, g, hg⟩ := hb hk
  exact ⟨b, off, e, hl, g, fun i hi => ⟨(hg i hi).1, (k1.cell (p := ⟨b, off + i, none⟩) (block_lt_of_cell (hg i hi).2) (by show b ≠ p; omega)).trans (hg i hi).2⟩⟩
theorem Kept.drewN (S : Nat → Prop) (A : World) (q : Nat) : Kept S A (A.drewN q) := ⟨rfl, rfl, rfl, Nat.le_refl _, fun _ _ _ => rfl⟩
set_option maxHeartbeats 400000 in
set_option maxRecDepth 100000 in
theorem i_next (p k t n : Nat) (w : World) (hS : Src w p k t) (hk : k ≤ 1048576) (ht : t < 100000) (hn : 0 < n) (hn' : n ≤ 200) :
    Calls Try.prog 15 #[.pointer (some ⟨p, 0, none⟩), .int .i64 n] w fun e w' => ∃ r : Nat, r < n ∧ e = .returned (.int .i64 r) ∧ Hid (Src w' p k (t + 1)) ∧ Hid (Kept (fun c => c ≠ p) w w') := by
  obtain ⟨a, c, z, hr, hc, hm, hb⟩ := hS
  have HE := hide (Src.set hr hc hm hb)
  have c0 := hr.cel 0 _ rfl
  have c1 := hr.cel 1 _ rfl
  have f1 := hr.live 1
  have lt := hr.lt
  clear hr hm
  rcases Nat.eq_zero_or_pos k with h0 | hp
  · have hkb : ((k : Int) == 0) = true := by simp [h0]
    clear hb h0
    go_enter Try.func15, Try.ntmps15
    go_wp2_with fail
    go_ret
    exact ⟨t * 7 % n, Nat.mod_lt _ hn, by simp, HE.out.1, HE.out.2⟩
  · have hkb : ((k : Int) == 0) = false := by simp; omega
    obtain ⟨b, off, rfl, hlt, g, hg⟩ := hb hp
    have hne : b ≠ p := by omega
    clear hlt
    have g1 := (hg (t % k) (Nat.mod_lt _ hp)).2
    have l1 : t % k < k := Nat.mod_lt _ hp
    have g3 := (hg (t % k) (Nat.mod_lt _ hp)).1
    obtain ⟨Q, HQ, Q1⟩ : ∃ Q : Nat, Hid ((t : Int) / (k : Int) = (Q : Int)) ∧ Q < 100000 := ⟨t / k, rfl, Nat.lt_of_le_of_lt (Nat.div_le_self _ _) ht⟩
    clear hb hg
    go_enter Try.func15, Try.ntmps15
    go_wp2_with fail
    go_quiet (fail)
    rw [HQ.out]
    go_wp2_with fail
    go_ret
    rw [drawn1 _ _ g3 Q1]
    obtain ⟨r, hr1, hr2⟩ := tmod_ex ((g (t % k) + Q * 37 : Nat) : Int) n (by omega) hn
    exact ⟨r, hr1, by rw [hr2]; rfl, HE.out.1.kept (Kept.drewN (fun _ => True) _ _) (fun _ _ => trivial), HE.out.2.trans (Kept.drewN _ _ _)⟩
set_option maxHeartbeats 400000 in
theorem i_source (a : Option Addr) (k c : Nat) (w : World) (hk : k ≤ 1048576) (hc : k ≤ c) (hm : c ≤ maxLen)
    (hb : 0 < k → ∃ b off, a = some ⟨b, off, none⟩ ∧ ∃ g : Nat → Nat, ∀ i, i < k → g i < 256 ∧ w.cell? ⟨b, off + i, none⟩ = some (.int .u8 (g i))) :
    Calls Try.prog 14 #[.slice a k c] w fun e w' => e = .returned (.pointer (some ⟨w.heap.size, 0, none⟩)) ∧ Hid (Src w' w.heap.size k 0) ∧ Hid (Below w.heap.size w w') := by
  have HE : ∀ z : Int, Hid (Src (w.alloc (.cells #[.slice a k c, .int .i64 0, .int .i64 z] 53)) w.heap.size k 0) := fun z =>
    ⟨a, c, z, Bx.new w [.slice a k c, .int .i64 0, .int .i64 z] 53, hc, hm, fun hk => by
      obtain ⟨b, off, e, g, h5⟩ := hb hk
      have hl : b < w.heap.size := block_lt_of_cell (h5 0 hk).2
      exact ⟨b, off, e, by omega, g, fun i hi => ⟨(h5 i hi).1, ((below_alloc1 w _).cell hl).trans (h5 i hi).2⟩⟩⟩
  have hci : (c : Int) ≤ 9223372036854775807 := by unfold maxLen at hm; omega
  clear hb hm
  go_enter Try.func14, Try.ntmps14
  go_wp2_with fail
  all_goals
    go_ret
    exact ⟨rfl, (HE _).out, below_alloc1 _ _⟩
end Go.Proofs.Ytmnligaelihmiaa

namespace Go.Proofs.Ytmnligaelihmiaa
open Go.RowKit Go.Joins
def iz (x : Int) : Value := .int .i64 x
/-- A row of drawn numbers. -/
def RZ (p : Nat) (w : World) (v : Value) (L : List Int) : Prop := w.ownsRow 0 2 1 v L.length (L.map iz) ∧ ∀ c, v.ownBlock = some c → p < c
theorem RZ.kept {p : Nat} {w w' : World} {v : Value} {L : List Int} {S : Nat → Prop} (h : RZ p w v L) (k : Kept S w w') (hS : ∀ c, p < c → S c) : RZ p w' v L := ⟨ownsRow_kept h.1 k (fun c hc => hS c (h.2 c hc)), h.2⟩
/-- The rows so far. -/
def DO (p : Nat) (e : List (List Int)) (v : Value) (W : World) : Prop :=
  ∃ xs : List Value, W.ownsRow 0 27 1 v e.length xs ∧ (∀ c, v.ownBlock = some c → p < c) ∧ ∀ (i : Nat) (r : List Int), e[i]? = some r → ∃ ax cx, xs[i]? = some (.slice ax r.length cx) ∧ ∀ (j : Nat) (x : Int), r[j]? = some x → ∃ bb, ax = some ⟨bb, 0, none⟩ ∧ p < bb ∧ bb < W.heap.size ∧ v.ownBlock ≠ some bb ∧ W.cell? ⟨bb, j, none⟩ = some (iz x)
theorem DO.kept {p : Nat} {e : List (List Int)} {v : Value} {W W' : World} {S : Nat → Prop} (h : DO p e v W) (k : Kept S W W') (hS : ∀ c, p < c → c < W.heap.size → S c) : DO p e v W' := by
  obtain ⟨xs, h1, h2, h3⟩ := h
  refine ⟨xs, ownsRow_kept h1 k (fun c hc => hS c (h2 c hc) (World.ownsRow.lt h1 c hc).2), h2, fun i r hr => ?_⟩
  obtain ⟨ax, cx, a1, a2⟩ := h3 i r hr
  refine ⟨ax, cx, a1, fun j x hx => ?_⟩
  obtain ⟨bb, b1, b2, b3, b4, b5⟩ := a2 j x hx
  exact ⟨bb, b1, b2, Nat.lt_of_lt_of_le b3 k.size, b4, (k.cell (p := ⟨bb, j, none⟩) b3 (hS bb b2 b3)).trans b5⟩
theorem RZ.at_ {p : Nat} {w : World} {v : Value} {L : List Int} (h : RZ p w v L) : ∃ ax cx, v = .slice ax L.length cx ∧ ∀ (j : Nat) (x : Int), L[j]? = some x → ∃ bb, ax = some ⟨bb, 0, none⟩ ∧ p < bb ∧ bb < w.heap.size ∧ w.cell? ⟨bb, j, none⟩ = some (iz x) := by
  obtain ⟨h1, h2⟩ := h
  rcases h1.2 with ⟨rfl, h0⟩ | ⟨b, cap, cur, rfl, hb, hg, hnc, hcm, -⟩
  · refine ⟨none, 0, by rw [h0], fun j x hx => ?_⟩
    have := (List.getElem?_eq_some_iff.1 hx).1
    omega
  · refine ⟨_, cap, rfl, fun j x hx => ⟨b, rfl, h2 b rfl, (Array.getElem?_eq_some_iff.1 hg).1, ?_⟩⟩
    have hj := (List.getElem?_eq_some_iff.1 hx).1
    rw [World.ownsRow.cellAt h1 j (by simpa using hj), List.getElem?_map, hx]; rfl
/-- A row is put to them. -/
theorem DO.push {p : Nat} {e : List (List Int)} {v v7 : Value} {W V W4 : World} {xs : List Value} {r : List Int} (h1 : W.ownsRow 0 27 1 v e.length xs) (h2 : ∀ c, v.ownBlock = some c → p < c) (h3 : ∀ (i : Nat) (r : List Int), e[i]? = some r → ∃ ax cx, xs[i]? = some (.slice ax r.length cx) ∧ ∀ (j : Nat) (x : Int), r[j]? = some x → ∃ bb, ax = some ⟨bb, 0, none⟩ ∧ p < bb ∧ bb < W.heap.size ∧ v.ownBlock ≠ some bb ∧ W.cell? ⟨bb, j, none⟩ = some (iz x))
    (hr : RZ p W v7 r) (hne : ∀ c, v7.ownBlock = some c → v.ownBlock ≠ some c) (hp : p < W.heap.size) (kV : Kept (fun _ => True) W V) {b cap : Nat} (hG : V.grownBy W4 v.ownBlock) (hO : W4.ownsRow 0 27 1 (.slice (some ⟨b, 0, none⟩) (e.length + 1) cap) (e.length + 1) (xs ++ [v7])) (hat : v.ownBlock = some b ∨ b = V.heap.size) :
    DO p (e ++ [r]) (.slice (some ⟨b, 0, none⟩) (e.length + 1) cap) W4 ∧ Kept (fun c => v.ownBlock ≠ some c) W W4 := by
  have k4 : Kept (fun c => v.ownBlock ≠ some c) W W4 := (kV.mono (fun _ _ _ => trivial)).trans (Kept.grown hG (fun k hk hn => hn hk))
  have hxl : xs.length = e.length := by have := h1.1; omega
  have nb : ∀ r, r < W.heap.size → v.ownBlock ≠ some r → (Value.slice (some ⟨b, 0, none⟩) (e.length + 1) cap).ownBlock ≠ some r := fun r hr hn e1 => by
    have e2 : b = r := by simpa [Value.ownBlock] using e1
    rcases hat with e3 | e3
    · exact hn (by rw [e3, e2])
    · have := kV.size; omega
  refine ⟨⟨_, by rw [List.length_append]; exact hO, fun c hc => ?_, fun i u hu => ?_⟩, k4⟩
  · have e2 : b = c := by simpa [Value.ownBlock] using hc
    rcases hat with e3 | e3
    · rw [← e2]; exact h2 b e3
    · have := kV.size; omega
  · by_cases e1 : i < e.length
    · rw [List.getElem?_append_left e1] at hu
      obtain ⟨ax, cx, a1, a2⟩ := h3 i u hu
      refine ⟨ax, cx, by rw [List.getElem?_append_left (by omega)]; exact a1, fun j x hx => ?_⟩
      obtain ⟨bb, b1, b2, b3, b4, b5⟩ := a2 j x hx
      exact ⟨bb, b1, b2, Nat.lt_of_lt_of_le b3 k4.size, nb bb b3 b4, (k4.cell (p := ⟨bb, j, none⟩) b3 b4).trans b5⟩
    · rw [List.getElem?_append_right (by omega)] at hu
      have e2 : i - e.length = 0 := by
        have := (List.getElem?_eq_some_iff.1 hu).1
        simp at this; omega
      rw [e2] at hu
      simp at hu
      subst hu
      obtain ⟨ax, cx, rfl, a2⟩ := hr.at_
      refine ⟨ax, cx, by rw [List.getElem?_append_right (by omega), hxl, e2]; rfl, fun j x hx => ?_⟩
      obtain ⟨bb, rfl, b2, b3, b5⟩ := a2 j x hx
      have hn := hne bb rfl
      exact ⟨bb, rfl, b2, Nat.lt_of_lt_of_le b3 k4.size, nb bb b3 hn, (k4.cell (p := ⟨bb, j, none⟩) b3 hn).trans b5⟩
theorem DO.em {p : Nat} {e : List (List Int)} {v : Value} {W : World} (h : DO p e v W) : ∃ ea ec, v = .slice ea e.length ec ∧ EM e W.heap.size ea W := by
  obtain ⟨xs, h1, h2, h3⟩ := h
  rcases h1.2 with ⟨rfl, h0⟩ | ⟨b, cap, cur, rfl, hb, hg, hnc, hcm, -⟩
  · refine ⟨none, 0, by rw [h0], fun x r hx => ?_⟩
    have := (List.getElem?_eq_some_iff.1 hx).1
    omega
  · refine ⟨_, cap, rfl, fun x r hx => ?_⟩
    obtain ⟨ax, cx, a1, a2⟩ := h3 x r hx
    have hx2 := (List.getElem?_eq_some_iff.1 hx).1
    refine ⟨b, 0, ax, cx, rfl, (Array.getElem?_eq_some_iff.1 hg).1, ?_, fun j y hy => ?_⟩
    · rw [Nat.zero_add, World.ownsRow.cellAt h1 x (by have := h1.1; omega)]; exact a1
    · obtain ⟨bb, b1, b2, b3, -, b5⟩ := a2 j y hy
      exact ⟨bb, 0, b1, b3, by rw [Nat.zero_add]; exact b5⟩
end Go.Proofs.Ytmnligaelihmiaa

namespace Go.Proofs.Ytmnligaelihmiaa
open Go.RowKit Go.Joins
set_option maxHeartbeats 4000000 in
set_option maxRecDepth 100000 in
theorem i_draw (a : Option Addr) (k c : Nat) (W : World) (hk : k ≤ 1048576) (hc : k ≤ c) (hm : c ≤ maxLen)
    (hb : 0 < k → ∃ b off, a = some ⟨b, off, none⟩ ∧ ∃ g : Nat → Nat, ∀ i, i < k → g i < 256 ∧ W.cell? ⟨b, off + i, none⟩ = some (.int .u8 (g i))) :
    Calls Try.prog 5 #[.slice a k c] W fun r W' => ∃ v, r = .returned v ∧ Hid (∃ e, DO W.heap.size e v W' ∧ e.length ≤ 7 ∧ (∀ r ∈ e, r.length ≤ 3) ∧ Kept (fun c => c < W.heap.size) W W') := by
  have HS := hide (i_source a k c W hk hc hm hb)
  have HKB := hide hk
  clear hc hm hb hk
  go_enter Try.func5, Try.ntmps5
  go_wp2_with fail
  refine HS.out.mono ?_
  rintro r w1 ⟨rfl, s1, b1⟩
  go_wp2_with fail
  obtain ⟨P, hP⟩ : ∃ P, P = W.heap.size := ⟨_, rfl⟩
  rw [← hP] at s1 b1 ⊢
  obtain ⟨V2, hV2⟩ : ∃ V2, w1.alloc (.cells #[] 27) = V2 := ⟨_, rfl⟩
  have k2 : Kept (fun _ => True) w1 V2 := by rw [← hV2]; exact Kept.alloc _ _ _
  have z2 : V2.heap.size = w1.heap.size + 1 := by rw [← hV2]; simp
  have hPl : P < w1.heap.size := by obtain ⟨_, _, _, h1, -⟩ := s1.out; exact h1.lt
  have hDO : DO P [] (.slice (some ⟨w1.heap.size, 0, none⟩) 0 0) V2 := ⟨[], ⟨rfl, .inr ⟨w1.heap.size, 0, #[], rfl, Nat.zero_le _, by rw [← hV2]; exact heap_new _ _, Nat.le_refl _, by simp [maxLen], rfl, rfl⟩⟩, fun c hc => by
    have : w1.heap.size = c := by simpa [Value.ownBlock] using hc
    omega, fun i r hx => by simp at hx⟩
  have hK2 : Kept (fun c => c < P) W V2 := (Kept.of_below (S := fun c => c < P) b1.out (fun c _ h => h)).trans (k2.mono (fun _ _ _ => trivial))
  have HDO := hide hDO
  have HS2 := hide (s1.out.kept k2 (fun _ _ => trivial))
  have HK2 := hide hK2
  have HPW := hide hP
  have HPL : Hid (P < V2.heap.size) := by unfold Hid; omega
  rw [hV2]
  have HC := hide (i_next P k 0 8 V2 HS2.out HKB.out (by omega) (by omega) (by omega))
  clear s1 b1 k2 z2 hPl hDO hK2 hP hV2 HS
  refine HC.out.mono ?_
  clear HC
  rintro r w3 ⟨n, hn, rfl, s3, k3⟩
  have HD3 : Hid (DO P [] (.slice (some ⟨w1.heap.size, 0, none⟩) 0 0) w3) := HDO.out.kept k3.out (fun c h _ => by show c ≠ P; omega)
  have HK3 : Hid (Kept (fun c => c < P) W w3) := HK2.out.trans (k3.out.mono (fun c _ h => by show c ≠ P; omega))
  have HPL3 : Hid (P < w3.heap.size) := by have := k3.out.size; have := HPL.out; unfold Hid; omega
  have HN7 := hide hn
  have hnI : (n : Int) ≤ 7 := by omega
  clear HDO HK2 HPL HS2 k3 hn
  go_wp2_with fail
  go_loopw [4, 6, 7, 8] (fun s4 s6 s7 s8 wr => ∃ (i t : Nat) (e : List (List Int)), s6 = .int .i64 (i : Int) ∧ (∃ v, s7 = v) ∧ (∃ v, s8 = v) ∧ i ≤ n ∧ Hid (DO P e s4 wr) ∧ Hid (e.length = i ∧ ∀ r ∈ e, r.length ≤ 3) ∧ Hid (Src wr P k t) ∧ Hid (t ≤ 1 + 7 * i) ∧ Hid (Kept (fun c => c < P) W wr) ∧ Hid (P < wr.heap.size)) (fun _ s6 _ _ _ => n - (intOf s6).toNat)
  case atStart => exact ⟨0, 1, [], rfl, ⟨_, rfl⟩, ⟨_, rfl⟩, Nat.zero_le _, HD3.out, ⟨rfl, fun r hr => by simp at hr⟩, s3.out, Nat.le_refl _, HK3.out, HPL3.out⟩
  case round =>
    obtain ⟨i, t, e, rfl, ⟨v7, rfl⟩, ⟨v8, rfl⟩, hin, hD, he, hS, ht, hK, hPl⟩ := hrel
    have HIN := hide hin
    by_cases hi : i < n
    · have hii : (i : Int) < (n : Int) := by omega
      obtain ⟨V4, hV4⟩ : ∃ V4, wr.alloc (.cells #[] 2) = V4 := ⟨_, rfl⟩
      have k4 : Kept (fun _ => True) wr V4 := by rw [← hV4]; exact Kept.alloc _ _ _
      obtain ⟨X, hX⟩ : ∃ X, wr.heap.size = X := ⟨_, rfl⟩
      have hown : ∀ c, (Value.slice (some ⟨wr.heap.size, 0, none⟩) 0 0).ownBlock = some c → X ≤ c := fun c hc => by
        have e2 : wr.heap.size = c := by simpa [Value.ownBlock] using hc
        omega
      have HOX : Hid (∀ c, u4.ownBlock = some c → c < X) := by
        obtain ⟨xs, x1, -⟩ := hD.out
        intro c hc
        have := (World.ownsRow.lt x1 c hc).2
        omega
      have HDX : Hid (∀ wz, Kept (fun c => c ≠ P ∧ c < X) V4 wz → DO P e u4 wz) := fun wz kz =>
        hD.out.kept ((k4.mono (fun _ _ _ => trivial)).trans kz) (fun c h1 h2 => ⟨by omega, by omega⟩)
      have hRZ : RZ P V4 (.slice (some ⟨wr.heap.size, 0, none⟩) 0 0) [] := ⟨⟨rfl, .inr ⟨wr.heap.size, 0, #[], rfl, Nat.zero_le _, by rw [← hV4]; exact heap_new _ _, Nat.le_refl _, by simp [maxLen], rfl, rfl⟩⟩, fun c hc => by
        have e2 : wr.heap.size = c := by simpa [Value.ownBlock] using hc
        have := hPl.out
        omega⟩
      have HC := hide (i_next P k t 4 V4 (hS.out.kept k4 (fun _ _ => trivial)) HKB.out (by have := ht.out; have := HN7.out; omega) (by omega) (by omega))
      rw [hX] at hown hRZ
      have HRZ := hide hRZ
      have HOW := hide hown
      have HEE := hide he.out
      have HT := hide ht.out
      have HK4 : Hid (Kept (fun c => c < P) W V4) := hK.out.trans (k4.mono (fun _ _ _ => trivial))
      have HXV : Hid (X ≤ V4.heap.size) := by have := k4.size; unfold Hid; omega
      have HPL4 : Hid (P < V4.heap.size) := by have := k4.size; have := hPl.out; unfold Hid; omega
      have HV4 := hide hV4
      have HII := hide hi
      have HXP : Hid (P < X) := by have := hPl.out; unfold Hid; omega
      clear hD he hS ht hK hPl k4 hown hRZ hV4
      go_wp2_with fail
      rw [HV4.out]
      refine HC.out.mono ?_
      clear HC
      rintro r w5 ⟨q, hq, rfl, s5, k5⟩
      have HD5 : Hid (Kept (fun c => c ≠ P ∧ c < X) V4 w5) := k5.out.mono (fun c _ h => h.1)
      have HR5 : Hid (RZ P w5 (.slice (some ⟨X, 0, none⟩) 0 0) []) := HRZ.out.kept k5.out (fun c h => by show c ≠ P; omega)
      have HK5 : Hid (Kept (fun c => c < P) W w5) := HK4.out.trans (k5.out.mono (fun c _ h => by show c ≠ P; omega))
      have HPL5 : Hid (P < w5.heap.size) := by have := k5.out.size; have := HPL4.out; unfold Hid; omega
      have HQ := hide hq
      clear HRZ HK4 HPL4 k5 HV4 hq
      go_wp2_with fail
      go_loopw [7, 8] (fun s7 s8 wr => ∃ (kk t2 : Nat) (L : List Int), s8 = .int .i64 (kk : Int) ∧ kk ≤ 3 ∧ Hid (L.length + kk ≤ 3) ∧ Hid (RZ P wr s7 L) ∧ Hid (∀ c, s7.ownBlock = some c → X ≤ c) ∧ Hid (Kept (fun c => c ≠ P ∧ c < X) V4 wr) ∧ Hid (Src wr P k t2) ∧ Hid (t2 + 2 * kk ≤ 1 + 7 * i + 7) ∧ Hid (Kept (fun c => c < P) W wr) ∧ Hid (P < wr.heap.size)) (fun _ s8 _ => (intOf s8).toNat)
      case atStart => exact ⟨q, t + 1, [], rfl, by have := HQ.out; omega, by have := HQ.out; unfold Hid; simp; omega, HR5.out, HOW.out, HD5.out, s5.out, by have := HQ.out; have := HT.out; unfold Hid; omega, HK5.out, HPL5.out⟩
      case round =>
        obtain ⟨kk, t2, L, rfl, hk3, hL, hrz, hown, hD, hS, ht, hK, hPl⟩ := hrel
        by_cases hk0 : kk = 0
        · have hkk : ¬ (kk : Int) > 0 := by omega
          obtain ⟨ax, cx, rfl, -⟩ := hrz.out.at_
          obtain ⟨ln, hln⟩ : ∃ ln, L.length = ln := ⟨_, rfl⟩
          rw [hln] at hrz hown ⊢
          have HLN := hide hln
          clear hln
          obtain ⟨xs, x1, x2, x3⟩ := HDX.out _ hD.out
          obtain ⟨V6, hV6⟩ : ∃ V6, wr.alloc (.cells #[.slice ax ln cx] 27) = V6 := ⟨_, rfl⟩
          have k6 : Kept (fun _ => True) wr V6 := by rw [← hV6]; exact Kept.alloc _ _ _
          have HN6 : Hid (V6.heap[wr.heap.size]? = some (.cells #[.slice ax ln cx] 27)) := by unfold Hid; rw [← hV6]; exact heap_new _ _
          have HR6 : Hid (V6.ownsRow 0 27 1 u4 i xs) := by rw [← HEE.out.1]; exact ownsRow_kept x1 k6 (fun _ _ => trivial)
          have HM6 : Hid (i + 1 ≤ maxLen ∧ (i + 1) * 24 ≤ 140737488355328) := by have := HII.out; have := HN7.out; unfold Hid maxLen; omega
          have HT6 : Hid (∀ b cap W4, V6.grownBy W4 u4.ownBlock → W4.ownsRow 0 27 1 (.slice (some ⟨b, 0, none⟩) (i + 1) cap) (i + 1) (xs ++ [.slice ax ln cx]) → (u4.ownBlock = some b ∨ b = V6.heap.size) → DO P (e ++ [L]) (.slice (some ⟨b, 0, none⟩) (i + 1) cap) W4 ∧ Src W4 P k t2 ∧ Kept (fun c => c < P) W W4 ∧ P < W4.heap.size) := by
            intro b cap W4 hG hO hat
            have hei := HEE.out.1
            rw [← hei] at hO ⊢
            obtain ⟨p1, p2⟩ := DO.push x1 x2 x3 hrz.out (fun c hc e1 => by have := hown.out c hc; have := HOX.out c e1; omega) hPl.out k6 hG hO hat
            exact ⟨p1, hS.out.kept p2 (fun c hc e1 => by have := x2 c e1; omega), hK.out.trans (p2.mono (fun c _ h e1 => by have := x2 c e1; omega)), Nat.lt_of_lt_of_le hPl.out p2.size⟩
          have HL3 : Hid (L.length ≤ 3) := by have := hL.out; unfold Hid; omega
          have HT2 : Hid (t2 ≤ 1 + 7 * (i + 1)) := by have := ht.out; unfold Hid; omega
          have HV6 := hide hV6
          clear hL hrz hown hD hS ht hK hPl x1 x2 x3 hV6 k6 hk0
          go_upto_region 6 with (at_builtin; rw [HV6.out]; refine ur_stepL rfl _ _ 23 27 rfl Try.info27 Try.underlying23 rfl (by decide) 0 V6 u4 i xs [.slice ax ln cx] wr.heap.size 1 rfl rfl (Nat.zero_le _) HR6.out HN6.out rfl (by simp [Value.oneCell']) HM6.out.1 HM6.out.2 ?_; intro b cap W4 hO4 hG4 hat4; have Y := hide (HT6.out b cap W4 hG4 hO4 hat4); clear hO4 hG4 hat4)
          go_wp2_with fail
          go_roundw
          case rel => exact ⟨i + 1, t2, e ++ [L], (by have := HII.out; have := HN7.out; go_num), ⟨_, rfl⟩, ⟨_, rfl⟩, HII.out, Y.out.1, ⟨by rw [List.length_append, HEE.out.1]; rfl, fun r hr => by
            rcases List.mem_append.1 hr with h | h
            · exact HEE.out.2 r h
            · simp at h; subst h; exact HL3.out⟩, Y.out.2.1, HT2.out, Y.out.2.2.1, Y.out.2.2.2⟩
          case measure => (have := HII.out; have := HN7.out; simp [intOf]; omega)
        · have hkk : (kk : Int) > 0 := by omega
          have HC := hide (i_next P k t2 (n + 1) wr hS.out HKB.out (by have := ht.out; have := HII.out; have := HN7.out; omega) (by omega) (by have := HN7.out; omega))
          have HD6 := hide hD.out
          have HR6 := hide hrz.out
          have HOW6 := hide hown.out
          have HL6 := hide hL.out
          have HT6 := hide ht.out
          have HK6 := hide hK.out
          have HPL6 := hide hPl.out
          have HKK := hide hk3
          have HK0 := hide hk0
          clear hL hrz hown hD hS ht hK hPl hk0
          go_wp2_with fail
          refine HC.out.mono ?_
          clear HC
          rintro r w7 ⟨r1, hr1, rfl, s7, k7⟩
          have HC := hide (i_next P k (t2 + 1) 12 w7 s7.out HKB.out (by have := HT6.out; have := HII.out; have := HN7.out; omega) (by omega) (by omega))
          have HR1 := hide hr1
          clear hr1
          go_wp2_with fail
          refine HC.out.mono ?_
          clear HC
          rintro r w8 ⟨r2, hr2, rfl, s8, k8⟩
          have hKP : Kept (fun c => c ≠ P) wr w8 := k7.out.trans k8.out
          have hrz8 := HR6.out.kept hKP (fun c h => by show c ≠ P; omega)
          have hd8 : Kept (fun c => c ≠ P ∧ c < X) V4 w8 := HD6.out.trans (hKP.mono (fun c _ h => h.1))
          obtain ⟨x, hx⟩ : ∃ x : Int, wrap64 ((r1 : Int) - (r2 : Int) / 11) = x := ⟨_, rfl⟩
          obtain ⟨V9, hV9⟩ : ∃ V9, w8.alloc (.cells #[iz x] 2) = V9 := ⟨_, rfl⟩
          have k9 : Kept (fun _ => True) w8 V9 := by rw [← hV9]; exact Kept.alloc _ _ _
          have HN9 : Hid (V9.heap[w8.heap.size]? = some (.cells #[iz x] 2)) := by unfold Hid; rw [← hV9]; exact heap_new _ _
          obtain ⟨ln, hln⟩ : ∃ ln, L.length = ln := ⟨_, rfl⟩
          have HR9 : Hid (V9.ownsRow 0 2 1 u7 ln (L.map iz)) := by rw [← hln]; exact ownsRow_kept hrz8.1 k9 (fun _ _ => trivial)
          have HM9 : Hid (ln + 1 ≤ maxLen ∧ (ln + 1) * 8 ≤ 140737488355328) := by have := HL6.out; unfold Hid maxLen; omega
          have HT9 : Hid (∀ b cap W4, V9.grownBy W4 u7.ownBlock → W4.ownsRow 0 2 1 (.slice (some ⟨b, 0, none⟩) (ln + 1) cap) (ln + 1) (L.map iz ++ [iz x]) → (u7.ownBlock = some b ∨ b = V9.heap.size) → RZ P W4 (.slice (some ⟨b, 0, none⟩) (ln + 1) cap) (L ++ [x]) ∧ (∀ c, (Value.slice (some ⟨b, 0, none⟩) (ln + 1) cap).ownBlock = some c → X ≤ c) ∧ Kept (fun c => c ≠ P ∧ c < X) V4 W4 ∧ Src W4 P k (t2 + 1 + 1) ∧ Kept (fun c => c < P) W W4 ∧ P < W4.heap.size) := by
            intro b cap W4 hG hO hat
            have kG : Kept (fun c => u7.ownBlock ≠ some c) w8 W4 := (k9.mono (fun _ _ _ => trivial)).trans (Kept.grown hG (fun k hk hn => hn hk))
            have hsz := k9.size
            have hPl8 : P < w8.heap.size := Nat.lt_of_lt_of_le HPL6.out hKP.size
            refine ⟨⟨by rw [List.map_append, List.length_append, hln]; exact hO, fun c hc => ?_⟩, fun c hc => ?_, ?_, s8.out.kept kG (fun c hc e1 => by have := HR6.out.2 c e1; omega), (HK6.out.trans (hKP.mono (fun c _ h => by show c ≠ P; omega))).trans (kG.mono (fun c _ h e1 => by have := HR6.out.2 c e1; omega)), Nat.lt_of_lt_of_le hPl8 kG.size⟩
            · have e2 : b = c := by simpa [Value.ownBlock] using hc
              rcases hat with e3 | e3
              · rw [← e2]; exact HR6.out.2 b e3
              · omega
            · have e2 : b = c := by simpa [Value.ownBlock] using hc
              rcases hat with e3 | e3
              · rw [← e2]; exact HOW6.out b e3
              · have := hd8.size; have := HXV.out; omega
            · exact hd8.trans (kG.mono (fun c _ h e1 => by have := HOW6.out c e1; omega))
          have HV9 : Hid (w8.alloc (.cells #[.int .i64 (wrap64 ((r1 : Int) - (r2 : Int) / 11))] 2) = V9) := by rw [hx]; exact hV9
          clear hKP hrz8 hd8 hx hV9 k9 s7 k7 s8 k8
          go_upto_region 10 with (at_builtin; rw [HV9.out]; refine ur_stepL rfl _ _ 27 2 rfl Try.info2 Try.underlying27 rfl (by decide) 0 V9 u7 ln (L.map iz) [iz x] w8.heap.size 1 rfl rfl (Nat.zero_le _) HR9.out HN9.out rfl (by simp [Value.oneCell', iz]) HM9.out.1 HM9.out.2 ?_; intro b cap W4 hO4 hG4 hat4; have Y := hide (HT9.out b cap W4 hG4 hO4 hat4); clear hO4 hG4 hat4)
          have HLN := hide hln
          clear hln
          go_wp2_with fail
          go_roundw
          case rel => exact ⟨kk - 1, t2 + 1 + 1, L ++ [x], (by have := HK0.out; have := HKK.out; go_num), by have := HKK.out; omega, by have := HL6.out; have := HK0.out; unfold Hid; simp; omega, Y.out.1, Y.out.2.1, Y.out.2.2.1, Y.out.2.2.2.1, by have := HT6.out; have := HK0.out; unfold Hid; omega, Y.out.2.2.2.2.1, Y.out.2.2.2.2.2⟩
          case measure => (have := HK0.out; have := HKK.out; simp [intOf]; omega)
    · have hii : ¬ (i : Int) < (n : Int) := by omega
      have HD := hide hD.out
      have HEE := hide he.out
      have HK := hide hK.out
      clear hD he hS ht hK hPl
      go_wp2_with fail
      go_ret
      exact ⟨_, rfl, e, by rw [← HPW.out]; exact HD.out, by have := HEE.out.1; have := HN7.out; omega, HEE.out.2, by rw [← HPW.out]; exact HK.out⟩
end Go.Proofs.Ytmnligaelihmiaa
