import Derived.Test.YtmfngmkhdppnjaaHp
import Derived.Test.YtmfngmkhdppnjaaMkB
import Derived.Deep.AppendLies
import Derived.Laws.OwnMore
namespace Go.Proofs.Ytmfngmkhdppnjaa
open Go.RowKit Go.Joins

def iv (k : Nat) : Value := .int .i64 (k : Int)

/-- A row of numbers of its own. -/
def IR (B : Nat) (w : World) (v : Value) (L : List Nat) : Prop := w.ownsRow B 2 1 v L.length (L.map iv)

theorem IR.form {B : Nat} {w : World} {v : Value} {L : List Nat} (h : IR B w v L) (h0 : 0 < L.length) : ∃ g cap, v = .slice (some ⟨g, 0, none⟩) L.length cap ∧ B ≤ g ∧ g < w.heap.size := World.ownsRow.form h h0

theorem IR.cell {B : Nat} {w : World} {b cap : Nat} {L : List Nat} {n : Nat} (h : IR B w (.slice (some ⟨b, 0, none⟩) n cap) L) (hn : n = L.length) (i : Nat) (hi : i < L.length) : w.cell? ⟨b, i, none⟩ = some (.int .i64 (g L i : Nat)) := by
  subst hn
  have := World.ownsRow.cellAt h i (by omega)
  rw [this]
  simp [g_lt hi, iv]

theorem IR.frozen {B : Nat} {w : World} {b cap : Nat} {L : List Nat} {n : Nat} (h : IR B w (.slice (some ⟨b, 0, none⟩) n cap) L) (hn : n = L.length) (i : Nat) : w.frozen? ⟨b, i, none⟩ = false := by
  subst hn
  exact World.ownsRow.frozenAt h i

theorem IR.set {B : Nat} {w : World} {b cap : Nat} {L : List Nat} {n : Nat} (h : IR B w (.slice (some ⟨b, 0, none⟩) n cap) L) (hn : n = L.length) (i x : Nat) : IR B (w.setCell ⟨b, i, none⟩ (.int .i64 (x : Int))) (.slice (some ⟨b, 0, none⟩) n cap) (L.set i x) := by
  subst hn
  have := (World.ownsRow.stored h i (.int .i64 (x : Int))).1
  unfold IR
  rw [List.map_set, List.length_set]
  exact this

theorem m_len0 (a : Addr) (w : World) : (method (187) 58 (.pointer (some a)) "Len").run Try.prog w = (do let v ← loadVar 59 a; pure (23, v) : Sem (FuncId × Value)).run Try.prog w := by kernel_rfl
theorem m_less0 (a : Addr) (w : World) : (method (187) 58 (.pointer (some a)) "Less").run Try.prog w = (do let v ← loadVar 59 a; pure (44, v) : Sem (FuncId × Value)).run Try.prog w := by kernel_rfl
theorem m_swap0 (a : Addr) (w : World) : (method (187) 58 (.pointer (some a)) "Swap").run Try.prog w = (do let v ← loadVar 59 a; pure (47, v) : Sem (FuncId × Value)).run Try.prog w := by kernel_rfl
theorem m_push (a : Addr) (w : World) : (method (187) 58 (.pointer (some a)) "Push").run Try.prog w = .ok (46, .pointer (some a)) w := by kernel_rfl
theorem m_pop (a : Addr) (w : World) : (method (187) 58 (.pointer (some a)) "Pop").run Try.prog w = .ok (45, .pointer (some a)) w := by kernel_rfl
theorem m_len (a : Addr) (v : Value) (w : World) (h : w.cell? a = some v) : (method (187) 58 (.pointer (some a)) "Len").run Try.prog w = .ok (23, v) w := by
  rw [m_len0]; simp [loadVar, go_sem, h]
theorem m_less (a : Addr) (v : Value) (w : World) (h : w.cell? a = some v) : (method (187) 58 (.pointer (some a)) "Less").run Try.prog w = .ok (44, v) w := by
  rw [m_less0]; simp [loadVar, go_sem, h]
theorem m_swap (a : Addr) (v : Value) (w : World) (h : w.cell? a = some v) : (method (187) 58 (.pointer (some a)) "Swap").run Try.prog w = .ok (47, v) w := by
  rw [m_swap0]; simp [loadVar, go_sem, h]

set_option maxRecDepth 100000 in
theorem less_any (b n cap i j x y : Nat) (w : World) (hi : i < n) (hj : j < n) (hx : w.cell? ⟨b, i, none⟩ = some (.int .i64 (x : Int))) (hy : w.cell? ⟨b, j, none⟩ = some (.int .i64 (y : Int))) :
    Calls Try.prog 44 #[.slice (some ⟨b, 0, none⟩) n cap, .int .i64 i, .int .i64 j] w fun e w' => e = .returned (.bool (decide (x < y))) ∧ w' = w.drew := by
  have h1 : (i : Int) < n := by omega
  have h2 : (j : Int) < n := by omega
  go_enter Try.func44, Try.ntmps44
  go_wp2_with fail
  go_region
  all_goals
    go_wp2_with fail
    go_ret
    refine ⟨?_, rfl⟩
    congr 2

set_option maxRecDepth 100000 in
theorem swap_any (b n cap i j x y : Nat) (w : World) (hi : i < n) (hj : j < n) (hij : i ≠ j) (hx : w.cell? ⟨b, i, none⟩ = some (.int .i64 (x : Int))) (hy : w.cell? ⟨b, j, none⟩ = some (.int .i64 (y : Int))) (fx : w.frozen? ⟨b, i, none⟩ = false) (fy : w.frozen? ⟨b, j, none⟩ = false) :
    Calls Try.prog 47 #[.slice (some ⟨b, 0, none⟩) n cap, .int .i64 i, .int .i64 j] w fun e w' => e = .returned (.tuple #[]) ∧ w' = ((w.setCell ⟨b, i, none⟩ (.int .i64 (y : Int))).setCell ⟨b, j, none⟩ (.int .i64 (x : Int))).drew := by
  have h1 : (i : Int) < n := by omega
  have h2 : (j : Int) < n := by omega
  go_enter Try.func47, Try.ntmps47
  go_wp2_with fail
  go_region
  all_goals
    go_wp2_with fail
    go_end0
    exact ⟨rfl, rfl⟩

theorem len_any (a : Option Addr) (n cap : Nat) (w : World) : Calls Try.prog 23 #[.slice a n cap] w fun e w' => e = .returned (.int .i64 (n : Int)) ∧ w' = w := by
  go_enter Try.func23, Try.ntmps23
  go_wp2_with fail
  go_ret
  exact ⟨rfl, rfl⟩

/-- The heap: a box that holds a row of its own. -/
structure HB (w : World) (hb B : Nat) (v : Value) (L : List Nat) : Prop where
  lt : hb < w.heap.size
  cell : w.cell? ⟨hb, 0, none⟩ = some v
  fr : w.frozen? ⟨hb, 0, none⟩ = false
  row : IR B w v L
  ne : v.ownBlock ≠ some hb
  len : L.length ≤ 1048576

theorem HB.drew {w : World} {hb B : Nat} {v : Value} {L : List Nat} (h : HB w hb B v L) : HB w.drew hb B v L := ⟨h.lt, h.cell, h.fr, h.row, h.ne, h.len⟩

theorem HB.swap {w : World} {hb B b n cap : Nat} {L : List Nat} (h : HB w hb B (.slice (some ⟨b, 0, none⟩) n cap) L) (hn : n = L.length) (i j : Nat) :
    HB (((w.setCell ⟨b, i, none⟩ (.int .i64 (g L j : Nat))).setCell ⟨b, j, none⟩ (.int .i64 (g L i : Nat))).drew) hb B (.slice (some ⟨b, 0, none⟩) n cap) (sw L i j) := by
  have hne : b ≠ hb := fun e => h.ne (by rw [e]; rfl)
  refine ⟨by simpa using h.lt, ?_, ?_, ?_, h.ne, by rw [sw_len]; exact h.len⟩
  · show ((w.setCell ⟨b, i, none⟩ _).setCell ⟨b, j, none⟩ _).cell? ⟨hb, 0, none⟩ = _
    rw [World.cell?_setCell_other _ _ _ _ (fun e => hne (congrArg Addr.block e)), World.cell?_setCell_other _ _ _ _ (fun e => hne (congrArg Addr.block e))]
    exact h.cell
  · show ((w.setCell ⟨b, i, none⟩ _).setCell ⟨b, j, none⟩ _).frozen? ⟨hb, 0, none⟩ = _
    rw [World.frozen?_setCell, World.frozen?_setCell]
    exact h.fr
  · exact (h.row.set hn i _).set (by simpa using hn) j _

set_option maxHeartbeats 1000000 in
set_option maxRecDepth 100000 in
theorem up_any (hb B b n cap j : Nat) (L : List Nat) (w : World) (h : HB w hb B (.slice (some ⟨b, 0, none⟩) n cap) L) (hn : n = L.length) (hj : j < n) (hu : UpI L n j) :
    Calls Try.prog 25 #[.iface 58 (.pointer (some ⟨hb, 0, none⟩)), .int .i64 j] w fun e w' => e = .returned (.tuple #[]) ∧ ∃ L', HB w' hb B (.slice (some ⟨b, 0, none⟩) n cap) L' ∧ L'.Perm L ∧ Hp L' n ∧ Kept (fun c => c ≠ b) w w' := by
  have hn1 : n ≤ 1048576 := by rw [hn]; exact h.len
  have HN := hide hn
  have HU := hide hu
  have H := hide h
  clear hu h hn
  go_enter Try.func25, Try.ntmps25
  go_wp2_with fail
  go_loopw [1] (fun s wr => ∃ (k : Nat) (Lc : List Nat), s = .int .i64 k ∧ k < n ∧ Hid (UpI Lc n k) ∧ Hid (HB wr hb B (.slice (some ⟨b, 0, none⟩) n cap) Lc) ∧ Hid (Lc.Perm L) ∧ Hid (Kept (fun c => c ≠ b) w wr)) (fun s _ => (intOf s).toNat)
  case atStart => exact ⟨j, L, rfl, hj, HU, H, List.Perm.refl _, Kept.refl _ _⟩
  case round =>
    obtain ⟨k, Lc, rfl, hk, HUk, HBk, HPk, HKk⟩ := hrel
    rcases Nat.eq_zero_or_pos k with h0 | h0
    · subst h0
      go_wp2_with fail
      go_end0
      exact ⟨rfl, Lc, HBk.out, HPk.out, HUk.out.zero, HKk.out⟩
    · obtain ⟨i, hi⟩ : ∃ i, i = (k - 1) / 2 := ⟨_, rfl⟩
      have hq : ((k : Int) - 1).tdiv 2 = (i : Int) := by rw [Int.tdiv_eq_ediv_of_nonneg (by omega)]; omega
      have hne : ((i : Int) == (k : Int)) = false := by simp; omega
      have mL := m_less ⟨hb, 0, none⟩ _ wr HBk.out.cell
      have hl : Lc.length = n := by rw [HPk.out.length_eq]; exact HN.out.symm
      have ck := HBk.out.row.cell hl.symm k (by omega)
      have ci := HBk.out.row.cell hl.symm i (by omega)
      have fk := HBk.out.row.frozen hl.symm k
      have fi := HBk.out.row.frozen hl.symm i
      have hki : ¬ k = i := by omega
      have hik : i < k := by omega
      have HI := hide hi
      have HL := hide hl
      clear hi hl
      go_wp2_with fail
      refine (less_any b n cap k i _ _ wr (by omega) (by omega) ck ci).mono ?_
      rintro e w1 ⟨rfl, rfl⟩
      have mS := m_swap ⟨hb, 0, none⟩ _ wr.drew HBk.out.cell
      by_cases hlt : g Lc k < g Lc i
      · have hd : decide (g Lc k < g Lc i) = true := by simpa using hlt
        have HS := hide (swap_any b n cap i k (g Lc i) (g Lc k) wr.drew (by omega) hk (by omega) ci ck fi fk)
        go_wp2_with fail
        refine HS.out.mono ?_
        rintro e w2 ⟨rfl, rfl⟩
        have HB2 := hide (HBk.out.drew.swap (HL.out.symm) i k)
        go_wp2_with fail
        go_roundw
        case rel =>
          refine ⟨i, sw Lc i k, rfl, by omega, ?_, ?_, ?_, ?_⟩
          · have := HUk.out.step HL.out.symm hk h0 (by rw [← HI.out]; exact hlt)
            rw [← HI.out] at this; exact this
          · exact HB2
          · exact (sw_perm (by rw [HL.out]; omega) (by rw [HL.out]; omega)).trans HPk.out
          · exact HKk.out.trans (((Kept.drew _ _).trans (Kept.setCell _ _ _ _ (by simp))).trans ((Kept.setCell _ _ _ _ (by simp)).trans (Kept.drew _ _)))
        case measure => simp [intOf]; omega
      · have hd : decide (g Lc k < g Lc i) = false := by simpa using hlt
        go_wp2_with fail
        go_end0
        exact ⟨rfl, Lc, HBk.out.drew, HPk.out, HUk.out.stop (by rw [← HI.out]; exact hlt), HKk.out.trans (Kept.drew _ _)⟩
end Go.Proofs.Ytmfngmkhdppnjaa
