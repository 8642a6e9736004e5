import Derived.Test.YtjfoagmenehapaaGreatDoorQ21
import Derived.Test.YtjfoagmenehapaaGreatDoorQ23
import Derived.Test.YtjfoagmenehapaaGreatDoorQ24
import Derived.Test.YtjfoagmenehapaaGreatDoorQ25
import Derived.Test.YtjfoagmenehapaaGreatDoorQ26
import Derived.Test.YtjfoagmenehapaaGreatDoorQ27
namespace Go.Proofs.YtjfoagmenehapaaGreatDoor.Tree
open Go.RowKit Go.Joins

/-- What the model asks of the kids, kind by kind. -/
def kidsT : List (Int × (ByteArray → List Kn → Bool)) := [
  (1, fun _ L => L.length == 0),
  (2, fun _ L => L.length == 0),
  (3, fun _ L => L.length == 0),
  (4, fun _ L => L.length == 0),
  (5, fun _ L => L.length == 0),
  (6, fun _ L => decide (2 ≤ L.length) && (allB L eK 0 L.length)),
  (7, fun _ L => decide (2 ≤ L.length) && (allB L pK 0 (L.length - 1) && (allB L eK (L.length - 1) L.length))),
  (8, fun _ L => decide (1 ≤ L.length) && (allB L dK 0 (L.length - 1) && (allB L eK (L.length - 1) L.length))),
  (9, fun _ L => L.length == 3 && (allB L eK 0 3)),
  (10, fun _ L => decide (2 ≤ L.length) && (allB L eK 0 1 && (allB L (fun y => y == 19) 1 L.length))),
  (11, fun _ L => L.length != 1 && (allB L eK 0 L.length)),
  (12, fun _ L => allB L eK 0 L.length),
  (13, fun _ L => L.length == 2 && (allB L eK 0 2)),
  (14, fun _ L => decide (2 ≤ L.length) && (allB L eK 0 1 && (L.drop 1).all (fun y => y.k == 22 || y.k == 23))),
  (15, fun _ L => L.length == 1 && (allB L eK 0 1)),
  (16, fun _ L => L.length == 1 && (allB L eK 0 1)),
  (17, fun _ L => L.length == 1 && (allB L eK 0 1)),
  (18, fun _ L => turnsM false L),
  (19, fun _ L => L.length == 2 && (allB L pK 0 1 && (kd L (1) == 20))),
  (20, fun _ L => rhsM L),
  (21, fun _ L => L.length == 2 && (allB L eK 0 2)),
  (22, fun _ L => L.length == 2 && (allB L pK 0 1 && (allB L eK 1 2))),
  (23, fun _ L => L.length == 1 && (allB L eK 0 1)),
  (30, fun _ L => L.length == 0),
  (31, fun _ L => L.length == 0),
  (32, fun _ L => allB L pK 0 L.length),
  (33, fun _ L => L.length == 0),
  (34, fun _ L => L.length == 0),
  (35, fun _ L => L.length == 0),
  (36, fun _ L => L.length != 1 && (allB L pK 0 L.length)),
  (37, fun _ L => allB L pK 0 L.length),
  (38, fun _ L => L.length == 1 && (allB L pK 0 1)),
  (39, fun _ L => L.length == 1 && (allB L pK 0 1)),
  (40, fun _ L => L.length == 1 && (allB L pK 0 1)),
  (41, fun _ L => turnsM true L),
  (50, fun _ L => L.length == 0),
  (51, fun _ L => L.length == 0),
  (52, fun _ L => decide (2 ≤ L.length) && (allB L tK 0 L.length)),
  (53, fun _ L => L.length == 2 && (allB L tK 0 2)),
  (54, fun _ L => L.length != 1 && (allB L tK 0 L.length)),
  (55, fun _ L => L.length == 1 && (allB L tK 0 1)),
  (60, fun _ L => L.length == 3 && (plainB (kd L (0)) (kn L (0)) && (kd L (1) == 69 && (allB L tK 2 3)))),
  (61, fun _ L => decide (1 ≤ L.length) && (allB L pK 0 (L.length - 1) && (kd L (L.length - 1) == 20))),
  (62, fun _ L => L.length == 2 && (kd L (0) == 3 && ((kn L (0)).size == 1 && (plainB (kd L (1)) (kn L (1)))))),
  (63, fun _ L => decide (3 ≤ L.length) && (plainB (kd L (0)) (kn L (0)) && (allB L (fun y => y == 64) 1 (L.length - 1) && (plainB (kd L (L.length - 1)) (kn L (L.length - 1)))))),
  (64, fun _ L => allB L tK 0 L.length),
  (65, fun _ L => decide (2 ≤ L.length) && (kd L (0) == 69 && (kd L (1) == 50 && (allB L (fun y => y == 60) 2 L.length)))),
  (66, fun _ L => decide (2 ≤ L.length) && (kd L (0) == 69 && (tK (kd L (1)) && (allB L (fun y => y == 61) 2 L.length)))),
  (67, fun _ L => L.length == 0 || (L.length == 1 && plainB (kd L 0) (kn L 0))),
  (68, fun _ L => modM L),
  (69, fun _ L => L.all bndB),
  (70, fun nm L => allB L (fun y => y == 71) 0 L.length && (nm.toList.isEmpty || L.length == 0)),
  (71, fun _ L => L.length == 0)]
def kidsF (k : Int) (nm : ByteArray) (L : List Kn) : Bool := match kidsT.find? (fun e => e.1 == k) with
  | some e => e.2 nm L
  | none => false

theorem kidsF_else (k : Int) (nm : ByteArray) (L : List Kn) (h1 : ¬ (1 ≤ k ∧ k ≤ 23)) (h2 : ¬ (30 ≤ k ∧ k ≤ 41)) (h3 : ¬ (50 ≤ k ∧ k ≤ 55)) (h4 : ¬ (60 ≤ k ∧ k ≤ 71)) : kidsF k nm L = false := by
  have h : kidsT.find? (fun e => e.1 == k) = none := by
    unfold kidsT
    simp only [List.find?_eq_none, List.mem_cons, List.not_mem_nil, or_false, forall_eq_or_imp, forall_eq, beq_iff_eq]
    refine ⟨?_, ?_, ?_, ?_, ?_, ?_, ?_, ?_, ?_, ?_, ?_, ?_, ?_, ?_, ?_, ?_, ?_, ?_, ?_, ?_, ?_, ?_, ?_, ?_, ?_, ?_, ?_, ?_, ?_, ?_, ?_, ?_, ?_, ?_, ?_, ?_, ?_, ?_, ?_, ?_, ?_, ?_, ?_, ?_, ?_, ?_, ?_, ?_, ?_, ?_, ?_, ?_, ?_⟩ <;> omega
  unfold kidsF
  rw [h]
theorem kidsF1 (nm : ByteArray) (L : List Kn) : kidsF 1 nm L = (L.length == 0) := rfl
theorem kidsF2 (nm : ByteArray) (L : List Kn) : kidsF 2 nm L = (L.length == 0) := rfl
theorem kidsF3 (nm : ByteArray) (L : List Kn) : kidsF 3 nm L = (L.length == 0) := rfl
theorem kidsF4 (nm : ByteArray) (L : List Kn) : kidsF 4 nm L = (L.length == 0) := rfl
theorem kidsF5 (nm : ByteArray) (L : List Kn) : kidsF 5 nm L = (L.length == 0) := rfl
theorem kidsF6 (nm : ByteArray) (L : List Kn) : kidsF 6 nm L = (decide (2 ≤ L.length) && (allB L eK 0 L.length)) := rfl
theorem kidsF7 (nm : ByteArray) (L : List Kn) : kidsF 7 nm L = (decide (2 ≤ L.length) && (allB L pK 0 (L.length - 1) && (allB L eK (L.length - 1) L.length))) := rfl
theorem kidsF8 (nm : ByteArray) (L : List Kn) : kidsF 8 nm L = (decide (1 ≤ L.length) && (allB L dK 0 (L.length - 1) && (allB L eK (L.length - 1) L.length))) := rfl
theorem kidsF9 (nm : ByteArray) (L : List Kn) : kidsF 9 nm L = (L.length == 3 && (allB L eK 0 3)) := rfl
theorem kidsF10 (nm : ByteArray) (L : List Kn) : kidsF 10 nm L = (decide (2 ≤ L.length) && (allB L eK 0 1 && (allB L (fun y => y == 19) 1 L.length))) := rfl
theorem kidsF11 (nm : ByteArray) (L : List Kn) : kidsF 11 nm L = (L.length != 1 && (allB L eK 0 L.length)) := rfl
theorem kidsF12 (nm : ByteArray) (L : List Kn) : kidsF 12 nm L = (allB L eK 0 L.length) := rfl
theorem kidsF13 (nm : ByteArray) (L : List Kn) : kidsF 13 nm L = (L.length == 2 && (allB L eK 0 2)) := rfl
theorem kidsF14 (nm : ByteArray) (L : List Kn) : kidsF 14 nm L = (decide (2 ≤ L.length) && (allB L eK 0 1 && (L.drop 1).all (fun y => y.k == 22 || y.k == 23))) := rfl
theorem kidsF15 (nm : ByteArray) (L : List Kn) : kidsF 15 nm L = (L.length == 1 && (allB L eK 0 1)) := rfl
theorem kidsF16 (nm : ByteArray) (L : List Kn) : kidsF 16 nm L = (L.length == 1 && (allB L eK 0 1)) := rfl
theorem kidsF17 (nm : ByteArray) (L : List Kn) : kidsF 17 nm L = (L.length == 1 && (allB L eK 0 1)) := rfl
theorem kidsF18 (nm : ByteArray) (L : List Kn) : kidsF 18 nm L = (turnsM false L) := rfl
theorem kidsF19 (nm : ByteArray) (L : List Kn) : kidsF 19 nm L = (L.length == 2 && (allB L pK 0 1 && (kd L (1) == 20))) := rfl
theorem kidsF20 (nm : ByteArray) (L : List Kn) : kidsF 20 nm L = (rhsM L) := rfl
theorem kidsF21 (nm : ByteArray) (L : List Kn) : kidsF 21 nm L = (L.length == 2 && (allB L eK 0 2)) := rfl
theorem kidsF22 (nm : ByteArray) (L : List Kn) : kidsF 22 nm L = (L.length == 2 && (allB L pK 0 1 && (allB L eK 1 2))) := rfl
theorem kidsF23 (nm : ByteArray) (L : List Kn) : kidsF 23 nm L = (L.length == 1 && (allB L eK 0 1)) := rfl
theorem kidsF30 (nm : ByteArray) (L : List Kn) : kidsF 30 nm L = (L.length == 0) := rfl
theorem kidsF31 (nm : ByteArray) (L : List Kn) : kidsF 31 nm L = (L.length == 0) := rfl
theorem kidsF32 (nm : ByteArray) (L : List Kn) : kidsF 32 nm L = (allB L pK 0 L.length) := rfl
theorem kidsF33 (nm : ByteArray) (L : List Kn) : kidsF 33 nm L = (L.length == 0) := rfl
theorem kidsF34 (nm : ByteArray) (L : List Kn) : kidsF 34 nm L = (L.length == 0) := rfl
theorem kidsF35 (nm : ByteArray) (L : List Kn) : kidsF 35 nm L = (L.length == 0) := rfl
theorem kidsF36 (nm : ByteArray) (L : List Kn) : kidsF 36 nm L = (L.length != 1 && (allB L pK 0 L.length)) := rfl
theorem kidsF37 (nm : ByteArray) (L : List Kn) : kidsF 37 nm L = (allB L pK 0 L.length) := rfl
theorem kidsF38 (nm : ByteArray) (L : List Kn) : kidsF 38 nm L = (L.length == 1 && (allB L pK 0 1)) := rfl
theorem kidsF39 (nm : ByteArray) (L : List Kn) : kidsF 39 nm L = (L.length == 1 && (allB L pK 0 1)) := rfl
theorem kidsF40 (nm : ByteArray) (L : List Kn) : kidsF 40 nm L = (L.length == 1 && (allB L pK 0 1)) := rfl
theorem kidsF41 (nm : ByteArray) (L : List Kn) : kidsF 41 nm L = (turnsM true L) := rfl
theorem kidsF50 (nm : ByteArray) (L : List Kn) : kidsF 50 nm L = (L.length == 0) := rfl
theorem kidsF51 (nm : ByteArray) (L : List Kn) : kidsF 51 nm L = (L.length == 0) := rfl
theorem kidsF52 (nm : ByteArray) (L : List Kn) : kidsF 52 nm L = (decide (2 ≤ L.length) && (allB L tK 0 L.length)) := rfl
theorem kidsF53 (nm : ByteArray) (L : List Kn) : kidsF 53 nm L = (L.length == 2 && (allB L tK 0 2)) := rfl
theorem kidsF54 (nm : ByteArray) (L : List Kn) : kidsF 54 nm L = (L.length != 1 && (allB L tK 0 L.length)) := rfl
theorem kidsF55 (nm : ByteArray) (L : List Kn) : kidsF 55 nm L = (L.length == 1 && (allB L tK 0 1)) := rfl
theorem kidsF60 (nm : ByteArray) (L : List Kn) : kidsF 60 nm L = (L.length == 3 && (plainB (kd L (0)) (kn L (0)) && (kd L (1) == 69 && (allB L tK 2 3)))) := rfl
theorem kidsF61 (nm : ByteArray) (L : List Kn) : kidsF 61 nm L = (decide (1 ≤ L.length) && (allB L pK 0 (L.length - 1) && (kd L (L.length - 1) == 20))) := rfl
theorem kidsF62 (nm : ByteArray) (L : List Kn) : kidsF 62 nm L = (L.length == 2 && (kd L (0) == 3 && ((kn L (0)).size == 1 && (plainB (kd L (1)) (kn L (1)))))) := rfl
theorem kidsF63 (nm : ByteArray) (L : List Kn) : kidsF 63 nm L = (decide (3 ≤ L.length) && (plainB (kd L (0)) (kn L (0)) && (allB L (fun y => y == 64) 1 (L.length - 1) && (plainB (kd L (L.length - 1)) (kn L (L.length - 1)))))) := rfl
theorem kidsF64 (nm : ByteArray) (L : List Kn) : kidsF 64 nm L = (allB L tK 0 L.length) := rfl
theorem kidsF65 (nm : ByteArray) (L : List Kn) : kidsF 65 nm L = (decide (2 ≤ L.length) && (kd L (0) == 69 && (kd L (1) == 50 && (allB L (fun y => y == 60) 2 L.length)))) := rfl
theorem kidsF66 (nm : ByteArray) (L : List Kn) : kidsF 66 nm L = (decide (2 ≤ L.length) && (kd L (0) == 69 && (tK (kd L (1)) && (allB L (fun y => y == 61) 2 L.length)))) := rfl
theorem kidsF67 (nm : ByteArray) (L : List Kn) : kidsF 67 nm L = (L.length == 0 || (L.length == 1 && plainB (kd L 0) (kn L 0))) := rfl
theorem kidsF68 (nm : ByteArray) (L : List Kn) : kidsF 68 nm L = (modM L) := rfl
theorem kidsF69 (nm : ByteArray) (L : List Kn) : kidsF 69 nm L = (L.all bndB) := rfl
theorem kidsF70 (nm : ByteArray) (L : List Kn) : kidsF 70 nm L = (allB L (fun y => y == 71) 0 L.length && (nm.toList.isEmpty || L.length == 0)) := rfl
theorem kidsF71 (nm : ByteArray) (L : List Kn) : kidsF 71 nm L = (L.length == 0) := rfl

theorem mKidsE (k : Int) (nm : ByteArray) (a : Option Addr) (cap n : Nat) (L : List Kn) (W : World) (hl : L.length = n) (hn : n ≤ maxLen) (hk : Kids W W.heap.size a L) (h1 : 1 ≤ k) (h2 : k ≤ 23) :
    Calls Tryz.prog 31 #[nodeV k nm a n cap] W fun e W' => e = .returned (.bool (kidsF k nm L)) ∧ Below W.heap.size W W' := by
  subst hl
  have h : k = 1 ∨ k = 2 ∨ k = 3 ∨ k = 4 ∨ k = 5 ∨ k = 6 ∨ k = 7 ∨ k = 8 ∨ k = 9 ∨ k = 10 ∨ k = 11 ∨ k = 12 ∨ k = 13 ∨ k = 14 ∨ k = 15 ∨ k = 16 ∨ k = 17 ∨ k = 18 ∨ k = 19 ∨ k = 20 ∨ k = 21 ∨ k = 22 ∨ k = 23 := by omega
  rcases h with rfl | rfl | rfl | rfl | rfl | rfl | rfl | rfl | rfl | rfl | rfl | rfl | rfl | rfl | rfl | rfl | rfl | rfl | rfl | rfl | rfl | rfl | rfl
  · rw [kidsF1]; exact kid1 nm a cap L.length L W rfl hn hk
  · rw [kidsF2]; exact kid2 nm a cap L.length L W rfl hn hk
  · rw [kidsF3]; exact kid3 nm a cap L.length L W rfl hn hk
  · rw [kidsF4]; exact kid4 nm a cap L.length L W rfl hn hk
  · rw [kidsF5]; exact kid5 nm a cap L.length L W rfl hn hk
  · rw [kidsF6]; exact kid6 nm a cap L.length L W rfl hn hk
  · rw [kidsF7]; exact kid7 nm a cap L.length L W rfl hn hk
  · rw [kidsF8]; exact kid8 nm a cap L.length L W rfl hn hk
  · rw [kidsF9]; exact kid9 nm a cap L.length L W rfl hn hk
  · rw [kidsF10]; exact kid10 nm a cap L.length L W rfl hn hk
  · rw [kidsF11]; exact kid11 nm a cap L.length L W rfl hn hk
  · rw [kidsF12]; exact kid12 nm a cap L.length L W rfl hn hk
  · rw [kidsF13]; exact kid13 nm a cap L.length L W rfl hn hk
  · rw [kidsF14]; exact kid14 nm a cap L.length L W rfl hn hk
  · rw [kidsF15]; exact kid15 nm a cap L.length L W rfl hn hk
  · rw [kidsF16]; exact kid16 nm a cap L.length L W rfl hn hk
  · rw [kidsF17]; exact kid17 nm a cap L.length L W rfl hn hk
  · rw [kidsF18]; exact kid18 nm a cap L.length L W rfl hn hk
  · rw [kidsF19]; exact kid19 nm a cap L.length L W rfl hn hk
  · rw [kidsF20]; exact kid20 nm a cap L.length L W rfl hn hk
  · rw [kidsF21]; exact kid21 nm a cap L.length L W rfl hn hk
  · rw [kidsF22]; exact kid22 nm a cap L.length L W rfl hn hk
  · rw [kidsF23]; exact kid23 nm a cap L.length L W rfl hn hk

theorem mKidsP (k : Int) (nm : ByteArray) (a : Option Addr) (cap n : Nat) (L : List Kn) (W : World) (hl : L.length = n) (hn : n ≤ maxLen) (hk : Kids W W.heap.size a L) (h1 : 30 ≤ k) (h2 : k ≤ 41) :
    Calls Tryz.prog 33 #[nodeV k nm a n cap] W fun e W' => e = .returned (.bool (kidsF k nm L)) ∧ Below W.heap.size W W' := by
  subst hl
  have h : k = 30 ∨ k = 31 ∨ k = 32 ∨ k = 33 ∨ k = 34 ∨ k = 35 ∨ k = 36 ∨ k = 37 ∨ k = 38 ∨ k = 39 ∨ k = 40 ∨ k = 41 := by omega
  rcases h with rfl | rfl | rfl | rfl | rfl | rfl | rfl | rfl | rfl | rfl | rfl | rfl
  · rw [kidsF30]; exact kid30 nm a cap L.length L W rfl hn hk
  · rw [kidsF31]; exact kid31 nm a cap L.length L W rfl hn hk
  · rw [kidsF32]; exact kid32 nm a cap L.length L W rfl hn hk
  · rw [kidsF33]; exact kid33 nm a cap L.length L W rfl hn hk
  · rw [kidsF34]; exact kid34 nm a cap L.length L W rfl hn hk
  · rw [kidsF35]; exact kid35 nm a cap L.length L W rfl hn hk
  · rw [kidsF36]; exact kid36 nm a cap L.length L W rfl hn hk
  · rw [kidsF37]; exact kid37 nm a cap L.length L W rfl hn hk
  · rw [kidsF38]; exact kid38 nm a cap L.length L W rfl hn hk
  · rw [kidsF39]; exact kid39 nm a cap L.length L W rfl hn hk
  · rw [kidsF40]; exact kid40 nm a cap L.length L W rfl hn hk
  · rw [kidsF41]; exact kid41 nm a cap L.length L W rfl hn hk

theorem mKidsT (k : Int) (nm : ByteArray) (a : Option Addr) (cap n : Nat) (L : List Kn) (W : World) (hl : L.length = n) (hn : n ≤ maxLen) (hk : Kids W W.heap.size a L) (h1 : 50 ≤ k) (h2 : k ≤ 55) :
    Calls Tryz.prog 35 #[nodeV k nm a n cap] W fun e W' => e = .returned (.bool (kidsF k nm L)) ∧ Below W.heap.size W W' := by
  subst hl
  have h : k = 50 ∨ k = 51 ∨ k = 52 ∨ k = 53 ∨ k = 54 ∨ k = 55 := by omega
  rcases h with rfl | rfl | rfl | rfl | rfl | rfl
  · rw [kidsF50]; exact kid50 nm a cap L.length L W rfl hn hk
  · rw [kidsF51]; exact kid51 nm a cap L.length L W rfl hn hk
  · rw [kidsF52]; exact kid52 nm a cap L.length L W rfl hn hk
  · rw [kidsF53]; exact kid53 nm a cap L.length L W rfl hn hk
  · rw [kidsF54]; exact kid54 nm a cap L.length L W rfl hn hk
  · rw [kidsF55]; exact kid55 nm a cap L.length L W rfl hn hk

theorem mKidsD (k : Int) (nm : ByteArray) (a : Option Addr) (cap n : Nat) (L : List Kn) (W : World) (hl : L.length = n) (hn : n ≤ maxLen) (hk : Kids W W.heap.size a L) (h1 : 60 ≤ k) (h2 : k ≤ 71) :
    Calls Tryz.prog 36 #[nodeV k nm a n cap] W fun e W' => e = .returned (.bool (kidsF k nm L)) ∧ Below W.heap.size W W' := by
  subst hl
  have h : k = 60 ∨ k = 61 ∨ k = 62 ∨ k = 63 ∨ k = 64 ∨ k = 65 ∨ k = 66 ∨ k = 67 ∨ k = 68 ∨ k = 69 ∨ k = 70 ∨ k = 71 := by omega
  rcases h with rfl | rfl | rfl | rfl | rfl | rfl | rfl | rfl | rfl | rfl | rfl | rfl
  · rw [kidsF60]; exact kid60 nm a cap L.length L W rfl hn hk
  · rw [kidsF61]; exact kid61 nm a cap L.length L W rfl hn hk
  · rw [kidsF62]; exact kid62 nm a cap L.length L W rfl hn hk
  · rw [kidsF63]; exact kid63 nm a cap L.length L W rfl hn hk
  · rw [kidsF64]; exact kid64 nm a cap L.length L W rfl hn hk
  · rw [kidsF65]; exact kid65 nm a cap L.length L W rfl hn hk
  · rw [kidsF66]; exact kid66 nm a cap L.length L W rfl hn hk
  · rw [kidsF67]; exact kid67 nm a cap L.length L W rfl hn hk
  · rw [kidsF68]; exact kid68 nm a cap L.length L W rfl hn hk
  · rw [kidsF69]; exact kid69 nm a cap L.length L W rfl hn hk
  · rw [kidsF70]; exact kid70 nm a cap L.length L W rfl hn hk
  · rw [kidsF71]; exact kid71 nm a cap L.length L W rfl hn hk

/-- The model's word on one node. -/
def shapeM (k : Int) (nm : ByteArray) (L : List Kn) : Bool := nmF k nm true && kidsF k nm L

set_option maxHeartbeats 2000000 in
set_option maxRecDepth 100000 in
theorem mShape (k : Int) (nm : ByteArray) (a : Option Addr) (cap n : Nat) (L : List Kn) (W : World) (hl : L.length = n) (hn : n ≤ maxLen) (hk : Kids W W.heap.size a L) :
    Calls Tryz.prog 19 #[nodeV k nm a n cap] W fun e W' => e = .returned (.bool (shapeM k nm L)) ∧ Below W.heap.size W W' := by
  obtain ⟨T, hT⟩ : ∃ T, T = shapeM k nm L := ⟨_, rfl⟩
  rw [← hT]
  unfold shapeM at hT
  unfold nodeV
  have HN : Hid (∀ wx, Calls Tryz.prog 30 #[.agg #[.int .i64 k, .string nm, .slice a n cap]] wx fun e w' => e = .returned (.bool (nmF k nm true)) ∧ Below wx.heap.size wx w') := fun wx => mNameOk k nm a n cap wx
  have HE : Hid (∀ wx, 1 ≤ k → k ≤ 23 → Below W.heap.size W wx → Calls Tryz.prog 31 #[.agg #[.int .i64 k, .string nm, .slice a n cap]] wx fun e w' => e = .returned (.bool (kidsF k nm L)) ∧ Below wx.heap.size wx w') := fun wx h1 h2 hb => mKidsE k nm a cap n L wx hl hn (hk.at hb) h1 h2
  have HP : Hid (∀ wx, 30 ≤ k → k ≤ 41 → Below W.heap.size W wx → Calls Tryz.prog 33 #[.agg #[.int .i64 k, .string nm, .slice a n cap]] wx fun e w' => e = .returned (.bool (kidsF k nm L)) ∧ Below wx.heap.size wx w') := fun wx h1 h2 hb => mKidsP k nm a cap n L wx hl hn (hk.at hb) h1 h2
  have HY : Hid (∀ wx, 50 ≤ k → k ≤ 55 → Below W.heap.size W wx → Calls Tryz.prog 35 #[.agg #[.int .i64 k, .string nm, .slice a n cap]] wx fun e w' => e = .returned (.bool (kidsF k nm L)) ∧ Below wx.heap.size wx w') := fun wx h1 h2 hb => mKidsT k nm a cap n L wx hl hn (hk.at hb) h1 h2
  have HD : Hid (∀ wx, 60 ≤ k → k ≤ 71 → Below W.heap.size W wx → Calls Tryz.prog 36 #[.agg #[.int .i64 k, .string nm, .slice a n cap]] wx fun e w' => e = .returned (.bool (kidsF k nm L)) ∧ Below wx.heap.size wx w') := fun wx h1 h2 hb => mKidsD k nm a cap n L wx hl hn (hk.at hb) h1 h2
  have HC2 : Hid (∀ wx, Calls Tryz.prog 32 #[.int .i64 k] wx fun e w' => e = .returned (.bool (pK k)) ∧ w' = wx) := fun wx => mPat k wx
  have HC3 : Hid (∀ wx, Calls Tryz.prog 34 #[.int .i64 k] wx fun e w' => e = .returned (.bool (tK k)) ∧ w' = wx) := fun wx => mType k wx
  have HZ : Hid (¬ (1 ≤ k ∧ k ≤ 23) → ¬ (30 ≤ k ∧ k ≤ 41) → ¬ (50 ≤ k ∧ k ≤ 55) → ¬ (60 ≤ k ∧ k ≤ 71) → kidsF k nm L = false) := fun h1 h2 h3 h4 => kidsF_else k nm L h1 h2 h3 h4
  have q1 := Box3.new W (.int .i64 k) (.string nm) (.slice a n cap) 29
  have hB0 : Below W.heap.size W (W.alloc (.cells #[.int .i64 k, .string nm, .slice a n cap] 29)) := below_alloc1 _ _
  clear hl hn hk
  generalize kidsF k nm L = Y at *
  generalize nmF k nm true = X at *
  have HT := hide hT
  clear hT
  cases X with
  | false =>
    have HT2 : Hid (T = false) := HT.out
    clear HT HE HP HY HD HZ HC2 HC3
    go_enter Tryz.func19, Tryz.ntmps19
    go_upto_region 1 with fail
    generalize W.alloc (.cells #[.int .i64 k, .string nm, .slice a n cap] 29) = W0 at *
    obtain ⟨-, d0, d1, d2, -, -, -⟩ := id q1
    go_wp2_with fail
    refine (HN.out _).mono ?_
    rintro e w1 ⟨rfl, b1⟩
    go_wp2_with fail
    go_ret
    exact ⟨by rw [HT2.out]; rfl, hB0.trans (b1.mono hB0.size)⟩
  | true =>
    have HT2 : Hid (T = Y) := HT.out
    clear HT
    go_enter Tryz.func19, Tryz.ntmps19
    go_upto_region 1 with fail
    generalize W.alloc (.cells #[.int .i64 k, .string nm, .slice a n cap] 29) = W0 at *
    obtain ⟨-, d0, d1, d2, -, -, -⟩ := id q1
    go_wp2_with fail
    refine (HN.out _).mono ?_
    rintro e w1 ⟨rfl, b1⟩
    have c1 := hB0.trans (b1.mono hB0.size)
    obtain ⟨-, f0, f1, f2, -, -, -⟩ := id (q1.below b1 q1.lt)
    clear d0 d1 d2 q1 HN
    by_cases hE : 1 ≤ k ∧ k ≤ 23
    · have H1 := hide (HE.out w1 hE.1 hE.2 c1)
      have z1 := hE.1
      have z2 := hE.2
      clear HE HP HY HD HZ HC2 HC3 hE
      go_wp2_with fail
      refine H1.out.mono ?_
      rintro e w2 ⟨rfl, b2⟩
      go_wp2_with fail
      go_ret
      exact ⟨by rw [HT2.out]; rfl, c1.trans (b2.mono c1.size)⟩
    · have hEz : (1 ≤ k ∧ ¬ k ≤ 23) ∨ ¬ 1 ≤ k := by omega
      by_cases hP : 30 ≤ k ∧ k ≤ 41
      · have z1 : 1 ≤ k := by omega
        have z2 : ¬ k ≤ 23 := by omega
        have H1 := hide (HP.out w1 hP.1 hP.2 c1)
        have hp : pK k = true := by unfold pK; simp [hP.1, hP.2]
        rw [hp] at HC2
        clear HE HP HY HD HZ HC3 hE hEz hP hp
        go_wp2_with fail
        refine (HC2.out _).mono ?_
        rintro e w2 ⟨rfl, rfl⟩
        go_wp2_with fail
        refine H1.out.mono ?_
        rintro e w2 ⟨rfl, b2⟩
        go_wp2_with fail
        go_ret
        exact ⟨by rw [HT2.out]; rfl, c1.trans (b2.mono c1.size)⟩
      · have hp : pK k = false := by
          unfold pK
          by_cases h : 30 ≤ k
          · rw [decide_eq_false (show ¬ k ≤ 41 by omega), Bool.and_false]
          · rw [decide_eq_false h, Bool.false_and]
        rw [hp] at HC2
        clear hp
        by_cases hY : 50 ≤ k ∧ k ≤ 55
        · have z1 : 1 ≤ k := by omega
          have z2 : ¬ k ≤ 23 := by omega
          have H1 := hide (HY.out w1 hY.1 hY.2 c1)
          have hp : tK k = true := by unfold tK; simp [hY.1, hY.2]
          rw [hp] at HC3
          clear HE HP HY HD HZ hE hEz hP hp hY
          go_wp2_with fail
          refine (HC2.out _).mono ?_
          rintro e w2 ⟨rfl, rfl⟩
          go_wp2_with fail
          refine (HC3.out _).mono ?_
          rintro e w2 ⟨rfl, rfl⟩
          go_wp2_with fail
          refine H1.out.mono ?_
          rintro e w2 ⟨rfl, b2⟩
          go_wp2_with fail
          go_ret
          exact ⟨by rw [HT2.out]; rfl, c1.trans (b2.mono c1.size)⟩
        · have hp : tK k = false := by
            unfold tK
            by_cases h : 50 ≤ k
            · rw [decide_eq_false (show ¬ k ≤ 55 by omega), Bool.and_false]
            · rw [decide_eq_false h, Bool.false_and]
          rw [hp] at HC3
          clear hp
          by_cases hD : 60 ≤ k ∧ k ≤ 71
          · have z1 : 1 ≤ k := by omega
            have z2 : ¬ k ≤ 23 := by omega
            have z3 := hD.1
            have z4 := hD.2
            have H1 := hide (HD.out w1 hD.1 hD.2 c1)
            clear HE HP HY HD HZ hE hEz hP hY hD
            go_wp2_with fail
            refine (HC2.out _).mono ?_
            rintro e w2 ⟨rfl, rfl⟩
            go_wp2_with fail
            refine (HC3.out _).mono ?_
            rintro e w2 ⟨rfl, rfl⟩
            go_wp2_with fail
            refine H1.out.mono ?_
            rintro e w2 ⟨rfl, b2⟩
            go_wp2_with fail
            go_ret
            exact ⟨by rw [HT2.out]; rfl, c1.trans (b2.mono c1.size)⟩
          · have HT3 : Hid (T = false) := HT2.out.trans (HZ.out hE hP hY hD)
            have hDz : (60 ≤ k ∧ ¬ k ≤ 71) ∨ ¬ 60 ≤ k := by omega
            clear HE HP HY HD HZ hE hP hY hD HT2
            rcases hEz with ⟨z1, z2⟩ | z1
            · rcases hDz with ⟨z3, z4⟩ | z3
              all_goals
                go_wp2_with fail
                refine (HC2.out _).mono ?_
                rintro e w2 ⟨rfl, rfl⟩
                go_wp2_with fail
                refine (HC3.out _).mono ?_
                rintro e w2 ⟨rfl, rfl⟩
                go_wp2_with fail
                go_ret
                exact ⟨by rw [HT3.out]; rfl, c1⟩
            · have z3 : ¬ 60 ≤ k := by omega
              clear hDz
              go_wp2_with fail
              refine (HC2.out _).mono ?_
              rintro e w2 ⟨rfl, rfl⟩
              go_wp2_with fail
              refine (HC3.out _).mono ?_
              rintro e w2 ⟨rfl, rfl⟩
              go_wp2_with fail
              go_ret
              exact ⟨by rw [HT3.out]; rfl, c1⟩

end Go.Proofs.YtjfoagmenehapaaGreatDoor.Tree

namespace Go.Proofs.YtjfoagmenehapaaGreatDoor.Tree
open Go.RowKit Go.Joins

/-- Names that mean everything stand in modules alone, first. -/
def exK (pk : Int) (i : Nat) (k : Int) (nm : ByteArray) : Bool := !(k == 70 && (!nm.toList.isEmpty && (pk != 68 || decide (0 < i))))
/-- The model's word on a row of kids and all below them. -/
def Fo.rowM : Fo → Int → Nat → Bool
  | .nil, _, _ => true
  | .cons k nm _ _ ks r, pk, i => (shapeM k nm ks.list && ks.rowM k 0) && (exK pk i k nm && r.rowM pk (i + 1))
def nodeM (k : Int) (nm : ByteArray) (ks : Fo) : Bool := shapeM k nm ks.list && ks.rowM k 0

set_option maxHeartbeats 2000000 in
set_option maxRecDepth 100000 in
theorem shapes_node : ∀ (m : Nat) (ks : Fo), ks.size < m → ∀ (k : Int) (nm : ByteArray) (W : World) (a : Option Addr) (cap : Nat), ks.Sl W (fun b => b < W.heap.size) a cap →
    Calls Tryz.prog 11 #[nodeV k nm a ks.len cap] W fun e W' => e = .returned (.bool (nodeM k nm ks)) ∧ Below W.heap.size W W' := by
  intro m
  induction m with
  | zero => intro F hF; omega
  | succ m ih =>
    intro ks hF k nm W a cap hs
    have hlt := ks.len_le
    have hmx : (ks.len : Int) ≤ 9223372036854775807 := by have h1 := hs.1; have h2 := hs.2.1; simp only [maxLen] at h2; omega
    have HS : Hid (∀ wx, Below W.heap.size W wx → Calls Tryz.prog 19 #[.agg #[.int .i64 k, .string nm, .slice a ks.len cap]] wx fun e W' => e = .returned (.bool (shapeM k nm ks.list)) ∧ Below wx.heap.size wx W') := fun wx hb =>
      mShape k nm a cap ks.len ks.list wx ks.list_length (by have h1 := hs.1; have h2 := hs.2.1; omega) (hs.kids.at hb)
    obtain ⟨T, hT⟩ : ∃ T, T = nodeM k nm ks := ⟨_, rfl⟩
    rw [← hT]
    unfold nodeM at hT
    unfold nodeV
    have q1 := Box3.new W (.int .i64 k) (.string nm) (.slice a ks.len cap) 29
    have hB0 : Below W.heap.size W (W.alloc (.cells #[.int .i64 k, .string nm, .slice a ks.len cap] 29)) := below_alloc1 _ _
    have HI := hide ih
    clear ih
    cases hX : shapeM k nm ks.list with
    | false =>
      rw [hX] at hT HS
      have HT : Hid (T = false) := hT
      clear hT hX hs HI
      go_enter Tryz.func11, Tryz.ntmps11
      go_upto_region 1 with fail
      generalize W.alloc (.cells #[.int .i64 k, .string nm, .slice a ks.len cap] 29) = W0 at *
      obtain ⟨-, d0, d1, d2, -, -, -⟩ := id q1
      go_wp2_with fail
      refine (HS.out _ hB0).mono ?_
      rintro e w1 ⟨rfl, b1⟩
      go_wp2_with fail
      go_ret
      exact ⟨by rw [HT.out]; rfl, hB0.trans (b1.mono hB0.size)⟩
    | true =>
      rw [hX] at hT HS
      have HT : Hid (T = ks.rowM k 0) := hT
      have HSl := hide hs
      clear hT hX hs
      go_enter Tryz.func11, Tryz.ntmps11
      go_upto_region 1 with fail
      generalize W.alloc (.cells #[.int .i64 k, .string nm, .slice a ks.len cap] 29) = W0 at *
      obtain ⟨-, d0, d1, d2, -, -, -⟩ := id q1
      go_wp2_with fail
      refine (HS.out _ hB0).mono ?_
      rintro e w1 ⟨rfl, b1⟩
      have c1 := hB0.trans (b1.mono hB0.size)
      have HQ := hide (q1.below b1 q1.lt)
      clear d0 d1 d2 q1 HS
      go_wp2_with fail
      go_loopw [3] (fun s3 wr => ∃ (i : Nat) (r : Fo), s3 = .int .i64 i ∧ r.len + i = ks.len ∧ r.size ≤ ks.size ∧ Hid (T = r.rowM k i) ∧
        Hid (0 < r.len → ∃ b o, a = some ⟨b, o, none⟩ ∧ b < W.heap.size ∧ r.Row wr (fun b => b < W.heap.size) b (o + i * 3)) ∧ Hid (Box3 wr W.heap.size (.int .i64 k) (.string nm) (.slice a ks.len cap)) ∧ Below W.heap.size W wr) (fun s3 _ => ks.len - (intOf s3).toNat)
      case atStart => exact ⟨0, ks, rfl, rfl, Nat.le_refl _, HT, (HSl.out.below c1 (fun b x => x)).2.2, HQ, c1⟩
      case round =>
        obtain ⟨i, r, rfl, hlen, hrs, HT', HR', HQ', bel⟩ := hrel
        have qlt := HQ'.out.lt
        obtain ⟨-, d0, d1, d2, -, -, -⟩ := HQ'.out
        cases r with
        | nil =>
          simp only [Fo.len, Nat.zero_add] at hlen
          have HT2 : Hid (T = true) := HT'.out
          clear HT' HR' HI HSl
          go_wp2_with fail
          go_ret
          exact ⟨by rw [HT2.out]; rfl, bel⟩
        | cons k' nm' ka kcap ks' r =>
          simp only [Fo.len, Fo.size] at hlen hrs
          obtain ⟨b, o, rfl, hb, hk, hnm, c0', c1', c2', h4, h5, h6, h7⟩ := HR'.out (by simp [Fo.len])
          have hks : ks'.Sl wr (fun b => b < W.heap.size) ka kcap := ⟨h4, h5, h6⟩
          have HC := hide (HI.out ks' (by omega) k' nm' wr ka kcap (hks.mono (fun b hb => by have := bel.size; omega)))
          have hTd : T = ((nodeM k' nm' ks') && (exK k i k' nm' && r.rowM k (i + 1))) := HT'.out
          have HTd := hide hTd
          have H7 := hide h7
          have hi : (i : Int) < ks.len := by omega
          have HA1 : Hid (r.len + (i + 1) = ks.len) := by unfold Hid; omega
          have HA2 : Hid (r.size ≤ ks.size) := by unfold Hid; omega
          clear hTd HT' HR' HI hks h4 h5 h6 h7 hk hnm
          generalize nodeM k' nm' ks' = X at HC HTd
          unfold nodeV at HC
          cases X with
          | false =>
            have HT2 : Hid (T = false) := HTd.out
            clear HTd
            go_wp2_with fail
            refine HC.out.mono ?_
            rintro e w2 ⟨rfl, b2⟩
            go_wp2_with fail
            go_ret
            exact ⟨by rw [HT2.out]; rfl, bel.trans (b2.mono bel.size)⟩
          | true =>
            have HT2 : Hid (T = (exK k i k' nm' && r.rowM k (i + 1))) := HTd.out
            clear HTd
            go_wp2_with fail
            refine HC.out.mono ?_
            rintro e w2 ⟨rfl, b2⟩
            have c2 := bel.trans (b2.mono bel.size)
            have HQ2 := hide (HQ'.out.below b2 qlt)
            have hbw : b < wr.heap.size := by have := bel.size; omega
            obtain ⟨-, e0, e1, e2, -, -, -⟩ := HQ2.out
            have y0 := (b2.cell (p := ⟨b, o + i * 3, none⟩) hbw).trans c0'
            have y1 := (b2.cell (p := ⟨b, o + i * 3 + 1, none⟩) hbw).trans c1'
            have HRn : Hid (r.Row w2 (fun b => b < W.heap.size) b (o + (i + 1) * 3)) := by
              unfold Hid
              have e : o + (i + 1) * 3 = o + i * 3 + 3 := by omega
              rw [e]
              exact H7.out.below b2 (fun b x => by have := bel.size; omega) hbw
            clear d0 d1 d2 c0' c1' c2' H7 HC
            by_cases z1 : k' = 70
            · subst z1
              rcases z2 : nm'.toList.isEmpty with _ | _
              · by_cases z3 : k = 68
                · subst z3
                  by_cases z4 : 0 < i
                  · have HT3 : Hid (T = false) := by unfold Hid; rw [HT2.out]; unfold exK; rw [z2, decide_eq_true z4]; rfl
                    have z4' : (0 : Int) < i := by omega
                    clear HT2
                    go_wp2_with fail
                    go_ret
                    exact ⟨by rw [HT3.out]; rfl, c2⟩
                  · have HT3 : Hid (T = r.rowM 68 (i + 1)) := by unfold Hid; rw [HT2.out]; unfold exK; rw [z2, decide_eq_false z4]; rfl
                    have z4' : ¬ (0 : Int) < i := by omega
                    clear HT2
                    go_wp2_with fail
                    go_roundw
                    case rel => exact ⟨i + 1, r, by go_num, HA1.out, HA2.out, HT3, fun _ => ⟨b, o, rfl, hb, HRn.out⟩, HQ2, c2⟩
                    case measure => simp [intOf]; omega
                · have z3' : (k != 68) = true := by simpa using z3
                  have z3'' : (k == 68) = false := beq_eq_false_iff_ne.2 z3
                  have HT3 : Hid (T = false) := by unfold Hid; rw [HT2.out]; unfold exK; rw [z2, z3']; rfl
                  clear HT2 z3
                  go_wp2_with fail
                  go_ret
                  exact ⟨by rw [HT3.out]; rfl, c2⟩
              · have HT3 : Hid (T = r.rowM k (i + 1)) := by unfold Hid; rw [HT2.out]; unfold exK; rw [z2]; rfl
                clear HT2
                go_wp2_with fail
                go_roundw
                case rel => exact ⟨i + 1, r, by go_num, HA1.out, HA2.out, HT3, fun _ => ⟨b, o, rfl, hb, HRn.out⟩, HQ2, c2⟩
                case measure => simp [intOf]; omega
            · have z1' : (k' == 70) = false := beq_eq_false_iff_ne.2 z1
              have HT3 : Hid (T = r.rowM k (i + 1)) := by unfold Hid; rw [HT2.out]; unfold exK; rw [z1']; rfl
              clear HT2 z1
              go_wp2_with fail
              go_roundw
              case rel => exact ⟨i + 1, r, by go_num, HA1.out, HA2.out, HT3, fun _ => ⟨b, o, rfl, hb, HRn.out⟩, HQ2, c2⟩
              case measure => simp [intOf]; omega

set_option maxHeartbeats 1000000 in
set_option maxRecDepth 100000 in
/-- The model's NodeFault. -/
theorem mNodeFault (k : Int) (nm : ByteArray) (a : Option Addr) (cap : Nat) (ks : Fo) (W : World) (hs : ks.Sl W (fun b => b < W.heap.size) a cap) :
    Calls Tryz.prog 5 #[nodeV k nm a ks.len cap] W fun e W' => e = .returned (.int .i64 (if tooL ((Fo.cons k nm a cap ks .nil).pre 1) 0 = true then 1 else if nodeM k nm ks = true then 0 else 2)) ∧ Below W.heap.size W W' := by
  have HB : Hid (∀ wx, Below W.heap.size W wx → Calls Tryz.prog 11 #[.agg #[.int .i64 k, .string nm, .slice a ks.len cap]] wx fun e W' => e = .returned (.bool (nodeM k nm ks)) ∧ Below wx.heap.size wx W') := fun wx hb =>
    shapes_node (ks.size + 1) ks (Nat.lt_succ_self _) k nm wx a cap (((hs.below hb (fun b x => x))).mono (fun b x => by have := hb.size; omega))
  have HA : Hid (∀ wx (p : Nat), Below W.heap.size W wx → W.heap.size ≤ p → LeftAt wx p 20000 → Calls Tryz.prog 10 #[.agg #[.int .i64 k, .string nm, .slice a ks.len cap], .int .i64 1, .pointer (some ⟨p, 0, none⟩)] wx fun e W' => e = .returned (.bool (!tooL ((Fo.cons k nm a cap ks .nil).pre 1) 0)) ∧ Kept (fun b => b ≠ p) wx W') := fun wx p hb hp hl =>
    (size_node (ks.size + 1) ks (Nat.lt_succ_self _) k nm W.heap.size p 0 1 wx a cap hb.size hp (by omega) (by omega) (hs.below hb (fun b x => x)) hl).mono (fun e W' h => ⟨h.1, h.2.1⟩)
  unfold nodeV
  generalize tooL ((Fo.cons k nm a cap ks .nil).pre 1) 0 = X at *
  generalize nodeM k nm ks = Y at *
  obtain ⟨A, hA⟩ : ∃ A, W.alloc (.cells #[.int .i64 k, .string nm, .slice a ks.len cap] 29) = A := ⟨_, rfl⟩
  have zA : A.heap.size = W.heap.size + 1 := by rw [← hA]; simp
  have bA : Below W.heap.size W A := by rw [← hA]; exact below_alloc1 _ _
  obtain ⟨B, hB⟩ : ∃ B, A.alloc (.cells #[.int .i64 20000] 2) = B := ⟨_, rfl⟩
  have bB : Below A.heap.size A B := by rw [← hB]; exact below_alloc1 _ _
  have bW : Below W.heap.size W B := bA.trans (bB.mono bA.size)
  have hq : Box3 B W.heap.size (.int .i64 k) (.string nm) (.slice a ks.len cap) := by
    rw [← hB, ← hA]; exact (Box3.new _ _ _ _ _).alloc _
  have hl : LeftAt B (W.heap.size + 1) 20000 := by
    rw [← zA, ← hB]
    exact ⟨by simp, by simp, by simp⟩
  have H1 := hide (HA.out B (W.heap.size + 1) bW (by omega) hl)
  clear hs HA hl
  cases X with
  | true =>
    clear HB
    go_enter Tryz.func5, Tryz.ntmps5
    go_upto_region 2 with fail
    clear hA hB
    obtain ⟨-, d0, d1, d2, -, -, -⟩ := id hq
    go_wp2_with fail
    refine H1.out.mono ?_
    rintro e w1 ⟨rfl, b1⟩
    have c1 := Below.kept bW b1 (fun b hb => by show b ≠ W.heap.size + 1; omega) (Nat.le_refl _)
    go_wp2_with fail
    go_ret
    exact ⟨rfl, c1⟩
  | false =>
    go_enter Tryz.func5, Tryz.ntmps5
    go_upto_region 2 with fail
    clear hA hB
    obtain ⟨-, d0, d1, d2, -, -, -⟩ := id hq
    go_wp2_with fail
    refine H1.out.mono ?_
    rintro e w1 ⟨rfl, b1⟩
    have c1 := Below.kept bW b1 (fun b hb => by show b ≠ W.heap.size + 1; omega) (Nat.le_refl _)
    obtain ⟨-, f0, f1, f2, -, -, -⟩ := hq.kept b1 (by show W.heap.size ≠ W.heap.size + 1; omega)
    have H2 := hide (HB.out w1 c1)
    clear d0 d1 d2 HB H1
    cases Y with
    | true =>
      go_wp2_with fail
      refine H2.out.mono ?_
      rintro e w2 ⟨rfl, b2⟩
      go_wp2_with fail
      go_ret
      exact ⟨rfl, c1.trans (b2.mono c1.size)⟩
    | false =>
      go_wp2_with fail
      refine H2.out.mono ?_
      rintro e w2 ⟨rfl, b2⟩
      go_wp2_with fail
      go_ret
      exact ⟨rfl, c1.trans (b2.mono c1.size)⟩

end Go.Proofs.YtjfoagmenehapaaGreatDoor.Tree

