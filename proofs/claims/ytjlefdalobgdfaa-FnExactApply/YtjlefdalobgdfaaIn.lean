import Derived.Test.YtjlefdalobgdfaaMkB
import Derived.Test.YtjlefdalobgdfaaEq
import Derived.Deep.AppendLies
import Derived.Laws.OwnMore
namespace Go.Proofs.Ytjlefdalobgdfaa
open Go.RowKit Go.Joins

def iv (k : Int) : Value := .int .i64 k
def g (L : List Int) (k : Nat) : Int := L.getD k 0
theorem g_lt {L : List Int} {k : Nat} (h : k < L.length) : L[k]? = some (g L k) := by
  simp [g, h]

/-- A row of numbers of its own. -/
def IR (B : Nat) (w : World) (v : Value) (L : List Int) : Prop := w.ownsRow B 2 1 v L.length (L.map iv)

theorem IR.cell {B : Nat} {w : World} {b cap : Nat} {L : List Int} {n : Nat} (h : IR B w (.slice (some ⟨b, 0, none⟩) n cap) L) (hn : n = L.length) (i : Nat) (hi : i < L.length) : w.cell? ⟨b, i, none⟩ = some (.int .i64 (g L i)) := by
  subst hn
  have := World.ownsRow.cellAt h i (by omega)
  rw [this]
  simp [g_lt hi, iv]

theorem IR.frozen {B : Nat} {w : World} {b cap : Nat} {L : List Int} {n : Nat} (h : IR B w (.slice (some ⟨b, 0, none⟩) n cap) L) (hn : n = L.length) (i : Nat) : w.frozen? ⟨b, i, none⟩ = false := by
  subst hn
  exact World.ownsRow.frozenAt h i

theorem IR.set {B : Nat} {w : World} {b cap : Nat} {L : List Int} {n : Nat} (h : IR B w (.slice (some ⟨b, 0, none⟩) n cap) L) (hn : n = L.length) (i : Nat) (x : Int) : IR B (w.setCell ⟨b, i, none⟩ (.int .i64 x)) (.slice (some ⟨b, 0, none⟩) n cap) (L.set i x) := by
  subst hn
  have := (World.ownsRow.stored h i (.int .i64 x)).1
  unfold IR
  rw [List.map_set, List.length_set]
  exact this

theorem IR.lt {B : Nat} {w : World} {v : Value} {L : List Int} (h : IR B w v L) : ∀ k, v.ownBlock = some k → B ≤ k ∧ k < w.heap.size := World.ownsRow.lt h
theorem IR.kept {B : Nat} {w w' : World} {v : Value} {L : List Int} (h : IR B w v L) {S : Nat → Prop} (k : Kept S w w') (hS : ∀ c, v.ownBlock = some c → S c) : IR B w' v L := by
  obtain ⟨h1, h2⟩ := h
  refine ⟨h1, ?_⟩
  rcases h2 with h2 | ⟨b, cap, cur, rfl, hb, hg, rest⟩
  · exact .inl h2
  · refine .inr ⟨b, cap, cur, rfl, hb, ?_, rest⟩
    have hlt : b < w.heap.size := (Array.getElem?_eq_some_iff.1 hg).1
    rw [k.block b hlt (hS b rfl)]
    exact hg

theorem IR.sl {B : Nat} {w : World} {v : Value} {L : List Int} (h : IR B w v L) : ∃ a cap, v = .slice a L.length cap ∧ L.length ≤ cap := by
  obtain ⟨h1, h2⟩ := h
  rcases h2 with ⟨rfl, h3⟩ | ⟨b, cap, cur, rfl, hb, hg, h4, -⟩
  · exact ⟨none, 0, by rw [h3], by omega⟩
  · exact ⟨_, cap, rfl, h4⟩
theorem IR.form2 {B : Nat} {w : World} {v : Value} {L : List Int} (h : IR B w v L) (h0 : 0 < L.length) : ∃ b cap, v = .slice (some ⟨b, 0, none⟩) L.length cap ∧ L.length ≤ cap := by
  obtain ⟨h1, h2⟩ := h
  rcases h2 with ⟨rfl, h3⟩ | ⟨b, cap, cur, rfl, hb, hg, h4, -⟩
  · omega
  · exact ⟨b, cap, rfl, h4⟩

theorem IR.nil (B : Nat) (w : World) : IR B w (.slice none 0 0) [] := ⟨rfl, .inl ⟨rfl, rfl⟩⟩

theorem IR.mono {B B' : Nat} {w : World} {v : Value} {L : List Int} (h : IR B w v L) (hb : B' ≤ B) : IR B' w v L := by
  obtain ⟨h1, h2⟩ := h
  refine ⟨h1, ?_⟩
  rcases h2 with h2 | ⟨b, cap, cur, rfl, hb', rest⟩
  · exact .inl h2
  · exact .inr ⟨b, cap, cur, rfl, by omega, rest⟩

set_option maxHeartbeats 1000000 in
set_option maxRecDepth 100000 in
theorem eq_ints (A B : Nat) (v u : Value) (L : List Int) (w : World) (hv : IR A w v L) (hu : IR B w u L) (hl : L.length ≤ 1048576) :
    Calls Try.prog 18 #[v, u] w fun e w' => e = .returned (.bool true) ∧ Below w.heap.size w w' := by
  obtain ⟨va, vc, rfl, -⟩ := hv.sl
  obtain ⟨ua, uc, rfl, -⟩ := hu.sl
  obtain ⟨n, hn⟩ : ∃ n, n = L.length := ⟨_, rfl⟩
  rw [← hn] at hv hu hl ⊢
  have HV := hide hv
  have HU := hide hu
  have HN := hide hn
  clear hv hu hn
  go_enter Try.func18, Try.ntmps18
  go_wp2_with fail
  go_loopw [5] (fun s wr => ∃ i : Nat, s = .int .i64 i ∧ i ≤ n ∧ Hid (Kept (fun _ => True) w wr)) (fun s _ => n - (intOf s).toNat)
  case atStart => exact ⟨0, rfl, Nat.zero_le _, Kept.refl _ _⟩
  case round =>
    obtain ⟨i, rfl, hi, HK⟩ := hrel
    by_cases hlt : i < n
    · have hlt' : (i : Int) < n := by omega
      have hp : 0 < L.length := by rw [← HN.out]; omega
      obtain ⟨b1, c1, e1, -⟩ := HV.out.form2 hp
      obtain ⟨b2, c2, e2, -⟩ := HU.out.form2 hp
      simp only [Value.slice.injEq] at e1 e2
      obtain ⟨rfl, -, rfl⟩ := e1
      obtain ⟨rfl, -, rfl⟩ := e2
      have x1 := (HV.out.kept HK.out (fun _ _ => trivial)).cell HN.out i (by rw [← HN.out]; exact hlt)
      have x2 := (HU.out.kept HK.out (fun _ _ => trivial)).cell HN.out i (by rw [← HN.out]; exact hlt)
      go_wp2_with fail
      go_region
      all_goals
        go_wp2_with fail
        go_roundw
        case rel => exact ⟨i + 1, by go_num, by omega, HK.out.trans (Kept.drew _ _)⟩
        case measure => simp [intOf]; omega
    · have hlt' : ¬ (i : Int) < n := by omega
      obtain rfl : i = n := by omega
      go_wp2_with fail
      go_ret
      exact ⟨rfl, HK.out.below (fun _ _ => trivial) (Nat.le_refl _)⟩

/-- The marks. -/
def mks (n : Nat) : List Int := (List.range n).map (fun i => ((i + 1 : Nat) : Int))
theorem mks_len (n : Nat) : (mks n).length = n := by simp [mks]
theorem g_mks {n i : Nat} (h : i < n) : g (mks n) i = ((i + 1 : Nat) : Int) := by simp [g, mks, h]

def mkd (L : List Int) (j : Nat) : List Int := mks j ++ L.drop j
theorem mkd_len {L : List Int} {j : Nat} (h : j ≤ L.length) : (mkd L j).length = L.length := by simp [mkd, mks_len]; omega
theorem mkd_succ {L : List Int} {j : Nat} (h : j < L.length) : (mkd L j).set j ((j + 1 : Nat) : Int) = mkd L (j + 1) := by
  unfold mkd
  have e1 : mks (j + 1) = mks j ++ [((j + 1 : Nat) : Int)] := by simp [mks, List.range_succ]
  have e2 : L.drop j = L[j] :: L.drop (j + 1) := List.drop_eq_getElem_cons h
  rw [e1, e2, List.set_append_right _ _ (by rw [mks_len]; exact Nat.le_refl _), mks_len]
  simp only [Nat.sub_self, List.set_cons_zero, List.append_assoc, List.cons_append, List.nil_append]

set_option maxHeartbeats 1000000 in
set_option maxRecDepth 100000 in
theorem mark_ints (B : Nat) (v : Value) (L : List Int) (w : World) (hv : IR B w v L) (hl : L.length ≤ 1048576) :
    Calls Try.prog 20 #[v, .int .i64 1] w fun e w' => e = .returned (.int .i64 ((1 + L.length : Nat) : Int)) ∧ IR B w' v (mks L.length) ∧ Kept (fun c => v.ownBlock ≠ some c) w w' := by
  obtain ⟨va, vc, rfl, -⟩ := hv.sl
  obtain ⟨n, hn⟩ : ∃ n, n = L.length := ⟨_, rfl⟩
  rw [← hn] at hv hl ⊢
  have HV := hide hv
  have HN := hide hn
  clear hv hn
  go_enter Try.func20, Try.ntmps20
  go_wp2_with fail
  go_loopw [1, 5] (fun k s wr => ∃ i K : Nat, s = .int .i64 i ∧ k = .int .i64 K ∧ Hid (K = 1 + i) ∧ i ≤ n ∧ Hid (IR B wr (.slice va n vc) (mkd L i)) ∧ Hid (Kept (fun c => (Value.slice va n vc).ownBlock ≠ some c) w wr)) (fun _ s _ => n - (intOf s).toNat)
  case atStart => exact ⟨0, 1, rfl, rfl, rfl, Nat.zero_le _, by unfold Hid mkd mks; simpa using HV.out, Kept.refl _ _⟩
  case round =>
    obtain ⟨i, K, rfl, rfl, hK, hi, HR, HK⟩ := hrel
    have hKb : K ≤ 1048577 := by have := hK.out; omega
    by_cases hlt : i < n
    · have hlt' : (i : Int) < n := by omega
      have hml : Hid (n = (mkd L i).length) := by unfold Hid; rw [mkd_len (by rw [← HN.out]; exact hi)]; exact HN.out
      obtain ⟨b1, c1, e1, -⟩ := HR.out.form2 (by rw [← hml.out]; omega)
      simp only [Value.slice.injEq] at e1
      obtain ⟨rfl, -, rfl⟩ := e1
      have x1 := HR.out.cell hml.out i (by rw [← hml.out]; exact hlt)
      have f1 := HR.out.frozen hml.out i
      have HS : Hid (IR B (wr.setCell ⟨b1, i, none⟩ (.int .i64 (K : Int))) (.slice (some ⟨b1, 0, none⟩) n vc) (mkd L (i + 1))) := by
        have h1 := HR.out.set hml.out i ((i + 1 : Nat) : Int)
        rw [mkd_succ (by rw [← HN.out]; exact hlt)] at h1
        have h2 : (((i + 1 : Nat)) : Int) = (K : Int) := by have := hK.out; omega
        rw [h2] at h1
        exact h1
      have HK2 : Hid (Kept (fun c => (Value.slice (some ⟨b1, 0, none⟩) n vc).ownBlock ≠ some c) w (wr.setCell ⟨b1, i, none⟩ (.int .i64 (K : Int)))) := HK.out.trans (Kept.setCell _ _ _ _ (by simp [Value.ownBlock]))
      clear HR
      go_wp2_with fail
      go_roundw
      case rel =>
        have hK := hK.out
        exact ⟨i + 1, K + 1, by go_num, by go_num, by unfold Hid; omega, by omega, HS, HK2⟩
      case measure => simp [intOf]; omega
    · have hlt' : ¬ (i : Int) < n := by omega
      obtain rfl : i = n := by omega
      have HS : Hid (IR B wr (.slice va i vc) (mks i)) := by
        have := HR.out
        unfold mkd at this
        rw [List.drop_of_length_le (by rw [← HN.out]; exact Nat.le_refl _), List.append_nil] at this
        exact this
      go_wp2_with fail
      go_ret
      exact ⟨ret_int (by have := hK.out; omega), HS.out, HK.out⟩

set_option maxHeartbeats 1000000 in
set_option maxRecDepth 100000 in
theorem held_ints (B : Nat) (v : Value) (n : Nat) (w : World) (hv : IR B w v (mks n)) (hl : n ≤ 1048576) :
    Calls Try.prog 21 #[v, .int .i64 1] w fun e w' => e = .returned (.int .i64 ((1 + n : Nat) : Int)) ∧ Below w.heap.size w w' := by
  obtain ⟨va, vc, rfl, -⟩ := hv.sl
  rw [mks_len] at hv ⊢
  have HV := hide hv
  clear hv
  go_enter Try.func21, Try.ntmps21
  go_wp2_with fail
  go_loop [1, 5] (fun k s => ∃ i K : Nat, s = .int .i64 i ∧ k = .int .i64 K ∧ Hid (K = 1 + i) ∧ i ≤ n) (fun _ s => n - (intOf s).toNat)
  case atStart => exact ⟨0, 1, rfl, rfl, rfl, Nat.zero_le _⟩
  case round =>
    obtain ⟨i, K, rfl, rfl, hK, hi⟩ := hrel
    have hKb : K ≤ 1048577 := by have := hK.out; omega
    by_cases hlt : i < n
    · have hlt' : (i : Int) < n := by omega
      obtain ⟨b1, c1, e1, -⟩ := HV.out.form2 (by rw [mks_len]; omega)
      simp only [Value.slice.injEq] at e1
      obtain ⟨rfl, -, rfl⟩ := e1
      have x1 := HV.out.cell (mks_len n).symm i (by rw [mks_len]; exact hlt)
      have hgK : g (mks n) i = (K : Int) := by rw [g_mks hlt]; have := hK.out; omega
      rw [hgK] at x1
      clear hgK
      go_wp2_with fail
      go_round
      case rel =>
        have hK := hK.out
        exact ⟨i + 1, K + 1, by go_num, by go_num, by unfold Hid; omega, by omega⟩
      case measure => simp [intOf]; omega
    · have hlt' : ¬ (i : Int) < n := by omega
      obtain rfl : i = n := by omega
      go_wp2_with fail
      go_ret
      exact ⟨ret_int (by have := hK.out; omega), Below.refl _ _⟩

end Go.Proofs.Ytjlefdalobgdfaa
