import Derived.Test.YtmnligaelihmiaaGd
import Derived.Deep.AppendLies
import Derived.Laws.OwnMore
namespace Go.Proofs.Ytmnligaelihmiaa.He

/-! Heaps as lists. -/

def g (L : List Nat) (k : Nat) : Nat := L.getD k 0
def sw (L : List Nat) (i j : Nat) : List Nat := (L.set i (g L j)).set j (g L i)

theorem sw_len (L : List Nat) (i j : Nat) : (sw L i j).length = L.length := by simp [sw]

theorem g_lt {L : List Nat} {k : Nat} (h : k < L.length) : L[k]? = some (g L k) := by
  simp [g, h]

theorem g_set (L : List Nat) (i x k : Nat) (hi : i < L.length) : g (L.set i x) k = if k = i then x else g L k := by
  unfold g
  rw [List.getD_eq_getElem?_getD, List.getElem?_set]
  by_cases e : i = k
  · subst e; simp [hi]
  · rw [if_neg e, if_neg (fun h => e h.symm), List.getD_eq_getElem?_getD]

theorem g_sw {L : List Nat} {i j : Nat} (hi : i < L.length) (hj : j < L.length) (k : Nat) : g (sw L i j) k = if k = j then g L i else if k = i then g L j else g L k := by
  unfold sw
  rw [g_set _ _ _ _ (by simpa using hj), g_set _ _ _ _ hi]

theorem count_set' (L : List Nat) (i a b : Nat) (h : i < L.length) : (L.set i a).count b + (if g L i = b then 1 else 0) = L.count b + (if a = b then 1 else 0) := by
  rw [List.count_set h]
  have e : L[i] = g L i := by simp [g, h]
  rw [e]
  by_cases hb : g L i = b
  · have : 0 < L.count b := List.count_pos_iff.2 (by rw [← hb, ← e]; exact List.getElem_mem h)
    by_cases ha : a = b <;> simp [hb, ha] <;> omega
  · by_cases ha : a = b <;> simp [hb, ha]

theorem sw_perm {L : List Nat} {i j : Nat} (hi : i < L.length) (hj : j < L.length) : (sw L i j).Perm L := by
  rw [List.perm_iff_count]
  intro b
  have h1 := count_set' L i (g L j) b hi
  have h2 := count_set' (L.set i (g L j)) j (g L i) b (by simpa using hj)
  rw [g_set _ _ _ _ hi] at h2
  have e : (if j = i then g L j else g L j) = g L j := by split <;> rfl
  rw [e] at h2
  show ((L.set i (g L j)).set j (g L i)).count b = _
  omega

def Hp (L : List Nat) (n : Nat) : Prop := ∀ k, 0 < k → k < n → g L ((k - 1) / 2) ≤ g L k

def UpI (L : List Nat) (n j : Nat) : Prop :=
  (∀ k, 0 < k → k < n → k ≠ j → g L ((k - 1) / 2) ≤ g L k) ∧ (∀ k, 0 < k → k < n → (k - 1) / 2 = j → 0 < j → g L ((j - 1) / 2) ≤ g L k)

theorem UpI.zero {L : List Nat} {n : Nat} (h : UpI L n 0) : Hp L n := fun k h0 hk => h.1 k h0 hk (by omega)
theorem UpI.stop {L : List Nat} {n j : Nat} (h : UpI L n j) (hs : ¬ g L j < g L ((j - 1) / 2)) : Hp L n := fun k h0 hk => by
  by_cases e : k = j
  · subst e; omega
  · exact h.1 k h0 hk e
theorem UpI.step {L : List Nat} {n j : Nat} (h : UpI L n j) (hn : n = L.length) (hj : j < n) (h0 : 0 < j) (hs : g L j < g L ((j - 1) / 2)) : UpI (sw L ((j - 1) / 2) j) n ((j - 1) / 2) := by
  obtain ⟨i, hi⟩ : ∃ i, i = (j - 1) / 2 := ⟨_, rfl⟩
  rw [← hi] at hs ⊢
  have hij : i < j := by omega
  have G := g_sw (L := L) (i := i) (j := j) (by omega) (by omega)
  refine ⟨fun k k0 kn ki => ?_, fun k k0 kn kp i0 => ?_⟩
  · rw [G, G]
    by_cases e : k = j
    · subst e
      rw [← hi, if_neg (by omega), if_pos rfl, if_pos rfl]; omega
    · rw [if_neg e, if_neg ki]
      have a1 := h.1 k k0 kn e
      by_cases e1 : (k - 1) / 2 = j
      · rw [if_pos e1, hi]; exact h.2 k k0 kn e1 h0
      · rw [if_neg e1]
        by_cases e2 : (k - 1) / 2 = i
        · rw [if_pos e2]; rw [e2] at a1; omega
        · rw [if_neg e2]; exact a1
  · rw [G, G]
    have a1 := h.1 i i0 (by omega) (by omega)
    rw [if_neg (by omega), if_neg (by omega)]
    by_cases e : k = j
    · rw [if_pos e]; exact a1
    · rw [if_neg e, if_neg (by omega)]
      have a2 := h.1 k k0 kn e
      rw [kp] at a2; omega

def DnI (L : List Nat) (n i : Nat) : Prop :=
  (∀ k, 0 < k → k < n → (k - 1) / 2 ≠ i → g L ((k - 1) / 2) ≤ g L k) ∧ (∀ k, 0 < k → k < n → (k - 1) / 2 = i → 0 < i → g L ((i - 1) / 2) ≤ g L k)

theorem DnI.leaf {L : List Nat} {n i : Nat} (h : DnI L n i) (hs : n ≤ 2 * i + 1) : Hp L n := fun k h0 hk => h.1 k h0 hk (by omega)
theorem DnI.stop {L : List Nat} {n i j : Nat} (h : DnI L n i) (hm : ∀ k, 0 < k → k < n → (k - 1) / 2 = i → g L j ≤ g L k) (hs : ¬ g L j < g L i) : Hp L n := fun k h0 hk => by
  by_cases e : (k - 1) / 2 = i
  · rw [e]; have := hm k h0 hk e; omega
  · exact h.1 k h0 hk e
theorem DnI.step {L : List Nat} {n i j : Nat} (h : DnI L n i) (hn : n ≤ L.length) (hj : j < n) (h0 : 0 < j) (hp : (j - 1) / 2 = i) (hm : ∀ k, 0 < k → k < n → (k - 1) / 2 = i → g L j ≤ g L k) (hs : g L j < g L i) : DnI (sw L i j) n j := by
  have hij : i < j := by omega
  have G := g_sw (L := L) (i := i) (j := j) (by omega) (by omega)
  refine ⟨fun k k0 kn kp => ?_, fun k k0 kn kp _ => ?_⟩
  · rw [G, G, if_neg kp]
    by_cases e : (k - 1) / 2 = i
    · rw [if_pos e]
      by_cases e1 : k = j
      · rw [if_pos e1]; omega
      · rw [if_neg e1, if_neg (by omega)]; exact hm k k0 kn e
    · have e1 : k ≠ j := fun e1 => e (by rw [e1]; exact hp)
      rw [if_neg e, if_neg e1]
      by_cases e2 : k = i
      · rw [if_pos e2, e2]; exact h.2 j h0 hj hp (by omega)
      · rw [if_neg e2]; exact h.1 k k0 kn e
  · rw [G, G, hp, if_neg (by omega), if_pos rfl, if_neg (by omega), if_neg (by omega)]
    have := h.1 k k0 kn (by omega)
    rw [kp] at this; exact this

theorem Hp.min {L : List Nat} {n : Nat} (h : Hp L n) : ∀ m k, k ≤ m → k < n → g L 0 ≤ g L k
  | 0, k, hk, _ => by obtain rfl : k = 0 := by omega
                      exact Nat.le_refl _
  | m + 1, k, hk, hn => by
    rcases Nat.eq_zero_or_pos k with e | e
    · subst e; exact Nat.le_refl _
    · exact Nat.le_trans (Hp.min h m ((k - 1) / 2) (by omega) (by omega)) (h k e hn)

theorem Hp.first {L : List Nat} (h : Hp L L.length) : ∀ x ∈ L, g L 0 ≤ x := fun x hx => by
  obtain ⟨k, hk, rfl⟩ := List.getElem_of_mem hx
  have := h.min k k (Nat.le_refl _) hk
  rwa [show L[k] = g L k by simp [g, hk]]

theorem Hp.push {L : List Nat} (h : Hp L L.length) (x : Nat) : UpI (L ++ [x]) (L.length + 1) L.length := by
  have G : ∀ k, k < L.length → g (L ++ [x]) k = g L k := fun k hk => by simp [g, List.getElem?_append_left hk]
  refine ⟨fun k k0 kn ke => ?_, fun k k0 kn kp j0 => ?_⟩
  · rw [G _ (by omega), G _ (by omega)]; exact h k k0 (by omega)
  · omega

theorem Hp.pop {L : List Nat} {n : Nat} (h : Hp L L.length) (hn : L.length = n + 1) : DnI (sw L 0 n) n 0 := by
  have G := g_sw (L := L) (i := 0) (j := n) (by omega) (by omega)
  refine ⟨fun k k0 kn kp => ?_, fun k k0 kn kp i0 => by omega⟩
  rw [G, G, if_neg (by omega), if_neg (by omega), if_neg (by omega), if_neg (by omega)]
  exact h k k0 (by omega)

theorem take_last {L : List Nat} {n : Nat} (hn : L.length = n + 1) : L = L.take n ++ [g L n] := by
  have h1 : L[n]? = some (g L n) := g_lt (by omega)
  have h2 := List.take_add_one (l := L) (i := n)
  rw [h1, List.take_of_length_le (by omega)] at h2
  simpa using h2

theorem Hp.take {L : List Nat} {n : Nat} (h : Hp L n) (hn : L.length = n + 1) : Hp (L.take n) (L.take n).length := by
  have hl : (L.take n).length = n := by simp; omega
  have G : ∀ k, k < n → g (L.take n) k = g L k := fun k hk => by
    simp [g, hk]
  intro k k0 kn
  rw [hl] at kn
  rw [G _ (by omega), G _ kn]
  exact h k k0 kn

end Go.Proofs.Ytmnligaelihmiaa.He

namespace Go.Proofs.Ytmnligaelihmiaa.He
open Go.RowKit Go.Joins

/-- A row of numbers of its own. -/
def JR (B : Nat) (w : World) (v : Value) (L : List Nat) : Prop := w.ownsRow B 3 1 v L.length (L.map iv)

theorem JR.form {B : Nat} {w : World} {v : Value} {L : List Nat} (h : JR B w v L) (h0 : 0 < L.length) : ∃ g cap, v = .slice (some ⟨g, 0, none⟩) L.length cap ∧ B ≤ g ∧ g < w.heap.size := World.ownsRow.form h h0

theorem JR.cell {B : Nat} {w : World} {b cap : Nat} {L : List Nat} {n : Nat} (h : JR B w (.slice (some ⟨b, 0, none⟩) n cap) L) (hn : n = L.length) (i : Nat) (hi : i < L.length) : w.cell? ⟨b, i, none⟩ = some (.int .i64 (g L i : Nat)) := by
  subst hn
  have := World.ownsRow.cellAt h i (by omega)
  rw [this]
  simp [g_lt hi, iv]

theorem JR.frozen {B : Nat} {w : World} {b cap : Nat} {L : List Nat} {n : Nat} (h : JR B w (.slice (some ⟨b, 0, none⟩) n cap) L) (hn : n = L.length) (i : Nat) : w.frozen? ⟨b, i, none⟩ = false := by
  subst hn
  exact World.ownsRow.frozenAt h i

theorem JR.set {B : Nat} {w : World} {b cap : Nat} {L : List Nat} {n : Nat} (h : JR B w (.slice (some ⟨b, 0, none⟩) n cap) L) (hn : n = L.length) (i x : Nat) : JR B (w.setCell ⟨b, i, none⟩ (.int .i64 (x : Int))) (.slice (some ⟨b, 0, none⟩) n cap) (L.set i x) := by
  subst hn
  have := (World.ownsRow.stored h i (.int .i64 (x : Int))).1
  unfold JR
  rw [List.map_set, List.length_set]
  exact this

theorem m_len0 (a : Addr) (w : World) : (method (190) 59 (.pointer (some a)) "Len").run Try.prog w = (do let v ← loadVar 41 (a.add 0); pure (18, v) : Sem (FuncId × Value)).run Try.prog w := by kernel_rfl
theorem m_less0 (a : Addr) (w : World) : (method (190) 59 (.pointer (some a)) "Less").run Try.prog w = (do let v ← loadVar 41 (a.add 0); pure (54, v) : Sem (FuncId × Value)).run Try.prog w := by kernel_rfl
theorem m_swap0 (a : Addr) (w : World) : (method (190) 59 (.pointer (some a)) "Swap").run Try.prog w = (do let v ← loadVar 41 (a.add 0); pure (56, v) : Sem (FuncId × Value)).run Try.prog w := by kernel_rfl
theorem m_push (a : Addr) (w : World) : (method (190) 59 (.pointer (some a)) "Push").run Try.prog w = .ok (58, .pointer (some a)) w := by kernel_rfl
theorem m_pop (a : Addr) (w : World) : (method (190) 59 (.pointer (some a)) "Pop").run Try.prog w = .ok (57, .pointer (some a)) w := by kernel_rfl
theorem m_len (hb ho : Nat) (v : Value) (w : World) (h : w.cell? ⟨hb, ho, none⟩ = some v) : (method (190) 59 (.pointer (some ⟨hb, ho, none⟩)) "Len").run Try.prog w = .ok (18, v) w := by
  rw [m_len0, addr_add]; simp [loadVar, go_sem, h]
theorem m_less (hb ho : Nat) (v : Value) (w : World) (h : w.cell? ⟨hb, ho, none⟩ = some v) : (method (190) 59 (.pointer (some ⟨hb, ho, none⟩)) "Less").run Try.prog w = .ok (54, v) w := by
  rw [m_less0, addr_add]; simp [loadVar, go_sem, h]
theorem m_swap (hb ho : Nat) (v : Value) (w : World) (h : w.cell? ⟨hb, ho, none⟩ = some v) : (method (190) 59 (.pointer (some ⟨hb, ho, none⟩)) "Swap").run Try.prog w = .ok (56, v) w := by
  rw [m_swap0, addr_add]; simp [loadVar, go_sem, h]

set_option maxRecDepth 100000 in
theorem less_any (b n cap i j x y : Nat) (w : World) (hi : i < n) (hj : j < n) (hx : w.cell? ⟨b, i, none⟩ = some (.int .i64 (x : Int))) (hy : w.cell? ⟨b, j, none⟩ = some (.int .i64 (y : Int))) :
    Calls Try.prog 54 #[.slice (some ⟨b, 0, none⟩) n cap, .int .i64 i, .int .i64 j] w fun e w' => e = .returned (.bool (decide (x < y))) ∧ w' = w.drew := by
  have h1 : (i : Int) < n := by omega
  have h2 : (j : Int) < n := by omega
  go_enter Try.func54, Try.ntmps54
  go_wp2_with fail
  go_region
  all_goals
    go_wp2_with fail
    go_ret
    refine ⟨?_, rfl⟩
    congr 2

set_option maxRecDepth 100000 in
theorem swap_any (b n cap i j x y : Nat) (w : World) (hi : i < n) (hj : j < n) (hij : i ≠ j) (hx : w.cell? ⟨b, i, none⟩ = some (.int .i64 (x : Int))) (hy : w.cell? ⟨b, j, none⟩ = some (.int .i64 (y : Int))) (fx : w.frozen? ⟨b, i, none⟩ = false) (fy : w.frozen? ⟨b, j, none⟩ = false) :
    Calls Try.prog 56 #[.slice (some ⟨b, 0, none⟩) n cap, .int .i64 i, .int .i64 j] w fun e w' => e = .returned (.tuple #[]) ∧ w' = ((w.setCell ⟨b, i, none⟩ (.int .i64 (y : Int))).setCell ⟨b, j, none⟩ (.int .i64 (x : Int))).drew := by
  have h1 : (i : Int) < n := by omega
  have h2 : (j : Int) < n := by omega
  go_enter Try.func56, Try.ntmps56
  go_wp2_with fail
  go_region
  all_goals
    go_wp2_with fail
    go_end0
    exact ⟨rfl, rfl⟩

theorem len_any (a : Option Addr) (n cap : Nat) (w : World) : Calls Try.prog 18 #[.slice a n cap] w fun e w' => e = .returned (.int .i64 (n : Int)) ∧ w' = w := by
  go_enter Try.func18, Try.ntmps18
  go_wp2_with fail
  go_ret
  exact ⟨rfl, rfl⟩

/-- The heap: a box that holds a row of its own. -/
structure HB (w : World) (hb ho B : Nat) (v : Value) (L : List Nat) : Prop where
  lt : hb < w.heap.size
  cell : w.cell? ⟨hb, ho, none⟩ = some v
  fr : w.frozen? ⟨hb, ho, none⟩ = false
  row : JR B w v L
  ne : v.ownBlock ≠ some hb
  len : L.length ≤ 1048576

theorem HB.drew {w : World} {hb ho B : Nat} {v : Value} {L : List Nat} (h : HB w hb ho B v L) : HB w.drew hb ho B v L := ⟨h.lt, h.cell, h.fr, h.row, h.ne, h.len⟩

theorem HB.swap {w : World} {hb ho B b n cap : Nat} {L : List Nat} (h : HB w hb ho B (.slice (some ⟨b, 0, none⟩) n cap) L) (hn : n = L.length) (i j : Nat) :
    HB (((w.setCell ⟨b, i, none⟩ (.int .i64 (g L j : Nat))).setCell ⟨b, j, none⟩ (.int .i64 (g L i : Nat))).drew) hb ho B (.slice (some ⟨b, 0, none⟩) n cap) (sw L i j) := by
  have hne : b ≠ hb := fun e => h.ne (by rw [e]; rfl)
  refine ⟨by simpa using h.lt, ?_, ?_, ?_, h.ne, by rw [sw_len]; exact h.len⟩
  · show ((w.setCell ⟨b, i, none⟩ _).setCell ⟨b, j, none⟩ _).cell? ⟨hb, ho, none⟩ = _
    rw [World.cell?_setCell_other _ _ _ _ (fun e => hne (congrArg Addr.block e)), World.cell?_setCell_other _ _ _ _ (fun e => hne (congrArg Addr.block e))]
    exact h.cell
  · show ((w.setCell ⟨b, i, none⟩ _).setCell ⟨b, j, none⟩ _).frozen? ⟨hb, ho, none⟩ = _
    rw [World.frozen?_setCell, World.frozen?_setCell]
    exact h.fr
  · exact (h.row.set hn i _).set (by simpa using hn) j _

set_option maxHeartbeats 1000000 in
set_option maxRecDepth 100000 in
theorem up_any (hb ho B b n cap j : Nat) (L : List Nat) (w : World) (h : HB w hb ho B (.slice (some ⟨b, 0, none⟩) n cap) L) (hn : n = L.length) (hj : j < n) (hu : UpI L n j) :
    Calls Try.prog 37 #[.iface 59 (.pointer (some ⟨hb, ho, none⟩)), .int .i64 j] w fun e w' => e = .returned (.tuple #[]) ∧ ∃ L', HB w' hb ho B (.slice (some ⟨b, 0, none⟩) n cap) L' ∧ L'.Perm L ∧ Hp L' n ∧ Kept (fun c => c ≠ b) w w' := by
  have hn1 : n ≤ 1048576 := by rw [hn]; exact h.len
  have HN := hide hn
  have HU := hide hu
  have H := hide h
  clear hu h hn
  go_enter Try.func37, Try.ntmps37
  go_wp2_with fail
  go_loopw [1] (fun s wr => ∃ (k : Nat) (Lc : List Nat), s = .int .i64 k ∧ k < n ∧ Hid (UpI Lc n k) ∧ Hid (HB wr hb ho B (.slice (some ⟨b, 0, none⟩) n cap) Lc) ∧ Hid (Lc.Perm L) ∧ Hid (Kept (fun c => c ≠ b) w wr)) (fun s _ => (intOf s).toNat)
  case atStart => exact ⟨j, L, rfl, hj, HU, H, List.Perm.refl _, Kept.refl _ _⟩
  case round =>
    obtain ⟨k, Lc, rfl, hk, HUk, HBk, HPk, HKk⟩ := hrel
    rcases Nat.eq_zero_or_pos k with h0 | h0
    · subst h0
      go_wp2_with fail
      go_end0
      exact ⟨rfl, Lc, HBk.out, HPk.out, HUk.out.zero, HKk.out⟩
    · obtain ⟨i, hi⟩ : ∃ i, i = (k - 1) / 2 := ⟨_, rfl⟩
      have hq : ((k : Int) - 1).tdiv 2 = (i : Int) := by rw [Int.tdiv_eq_ediv_of_nonneg (by omega)]; omega
      have hne : ((i : Int) == (k : Int)) = false := by simp; omega
      have mL := m_less hb ho _ wr HBk.out.cell
      have hl : Lc.length = n := by rw [HPk.out.length_eq]; exact HN.out.symm
      have ck := HBk.out.row.cell hl.symm k (by omega)
      have ci := HBk.out.row.cell hl.symm i (by omega)
      have fk := HBk.out.row.frozen hl.symm k
      have fi := HBk.out.row.frozen hl.symm i
      have hki : ¬ k = i := by omega
      have hik : i < k := by omega
      have HI := hide hi
      have HL := hide hl
      clear hi hl
      go_wp2_with fail
      refine (less_any b n cap k i _ _ wr (by omega) (by omega) ck ci).mono ?_
      rintro e w1 ⟨rfl, rfl⟩
      have mS := m_swap hb ho _ wr.drew HBk.out.cell
      by_cases hlt : g Lc k < g Lc i
      · have hd : decide (g Lc k < g Lc i) = true := by simpa using hlt
        have HS := hide (swap_any b n cap i k (g Lc i) (g Lc k) wr.drew (by omega) hk (by omega) ci ck fi fk)
        go_wp2_with fail
        refine HS.out.mono ?_
        rintro e w2 ⟨rfl, rfl⟩
        have HB2 := hide (HBk.out.drew.swap (HL.out.symm) i k)
        go_wp2_with fail
        go_roundw
        case rel =>
          refine ⟨i, sw Lc i k, rfl, by omega, ?_, ?_, ?_, ?_⟩
          · have := HUk.out.step HL.out.symm hk h0 (by rw [← HI.out]; exact hlt)
            rw [← HI.out] at this; exact this
          · exact HB2
          · exact (sw_perm (by rw [HL.out]; omega) (by rw [HL.out]; omega)).trans HPk.out
          · exact HKk.out.trans (((Kept.drew _ _).trans (Kept.setCell _ _ _ _ (by simp))).trans ((Kept.setCell _ _ _ _ (by simp)).trans (Kept.drew _ _)))
        case measure => simp [intOf]; omega
      · have hd : decide (g Lc k < g Lc i) = false := by simpa using hlt
        go_wp2_with fail
        go_end0
        exact ⟨rfl, Lc, HBk.out.drew, HPk.out, HUk.out.stop (by rw [← HI.out]; exact hlt), HKk.out.trans (Kept.drew _ _)⟩
end Go.Proofs.Ytmnligaelihmiaa.He
