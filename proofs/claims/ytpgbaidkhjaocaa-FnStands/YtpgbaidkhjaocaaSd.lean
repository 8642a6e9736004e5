import Derived.Test.YtpgbaidkhjaocaaUd
import Derived.Test.YtpgbaidkhjaocaaUt
import Derived.Test.YtpgbaidkhjaocaaSb
import Derived.Deep.RegionLaw
import Derived.Deep.RegionHeld3
namespace Go.Proofs.Ytpgbaidkhjaocaa
open Go.RowKit Go.Joins D

theorem D.Src.alloc {w : World} {p k t : Nat} (h : Src w p k t) (o : Obj) : Src (w.alloc o) p k t := h.below (below_alloc1 _ _)
theorem D.Src.drew {w : World} {p k t : Nat} (h : Src w p k t) : Src w.drew p k t := h.below (Below.refl _ _).drew
theorem D.Dr.alloc {p : Nat} {a w : World} (h : Dr p a w) (o : Obj) (hp : p ≤ w.heap.size) : Dr p a (w.alloc o) := h.trans (Dr.below (below_alloc1 _ _) hp)
theorem D.Dr.drew {p : Nat} {a w : World} (h : Dr p a w) (hp : p ≤ w.heap.size) : Dr p a w.drew := h.trans (Dr.below (Below.refl _ _).drew hp)

theorem D.Dr.kept {p : Nat} {w w' : World} (h : Dr p w w') : Kept (fun c => c ≠ p) w w' := ⟨h.bel.os, h.bel.tape, h.bel.output, h.size, fun _ hk hn => h.eq hk hn⟩

theorem fin_out {w V0 V : World} {p k t : Nat} (hz : w.heap.size ≤ V0.heap.size) (hb : Below w.heap.size w V0) (hk : Kept (fun c => c ≠ p) V0 V) (hS : Src V p k t) (hp : p < w.heap.size) (x0 x1 x2 x3 : Value) :
    Src ((((V.setCell ⟨w.heap.size, 0, none⟩ x0).setCell ⟨w.heap.size, 1, none⟩ x1).setCell ⟨w.heap.size, 2, none⟩ x2).setCell ⟨w.heap.size, 3, none⟩ x3) p k t ∧ Dr p w ((((V.setCell ⟨w.heap.size, 0, none⟩ x0).setCell ⟨w.heap.size, 1, none⟩ x1).setCell ⟨w.heap.size, 2, none⟩ x2).setCell ⟨w.heap.size, 3, none⟩ x3) := by
  have b4 : Below w.heap.size V ((((V.setCell ⟨w.heap.size, 0, none⟩ x0).setCell ⟨w.heap.size, 1, none⟩ x1).setCell ⟨w.heap.size, 2, none⟩ x2).setCell ⟨w.heap.size, 3, none⟩ x3) := ((((Below.refl _ _).setCell (p := ⟨w.heap.size, 0, none⟩) (Nat.le_refl _) x0).setCell (p := ⟨w.heap.size, 1, none⟩) (Nat.le_refl _) x1).setCell (p := ⟨w.heap.size, 2, none⟩) (Nat.le_refl _) x2).setCell (p := ⟨w.heap.size, 3, none⟩) (Nat.le_refl _) x3
  refine ⟨hS.up b4 hp, ?_⟩
  have e : ∀ b, b < w.heap.size → b ≠ p → ((((V.setCell ⟨w.heap.size, 0, none⟩ x0).setCell ⟨w.heap.size, 1, none⟩ x1).setCell ⟨w.heap.size, 2, none⟩ x2).setCell ⟨w.heap.size, 3, none⟩ x3).heap[b]? = w.heap[b]? := fun b hb1 hn => (b4.block b hb1).trans ((hk.block b (by omega) hn).trans (hb.block b hb1))
  exact ⟨⟨b4.os.trans (hk.os.trans hb.os), b4.tape.trans (hk.tape.trans hb.tape), b4.output.trans (hk.output.trans hb.output), by have := b4.size; have := hk.size; omega, fun b hb1 => e b (by omega) (by omega)⟩, fun b h1 h2 => e b h2 (by omega)⟩

/-- The texts that are drawn. -/
def tx (i : Nat) : ByteArray := if i = 0 then ⟨#[]⟩ else if i = 1 then ⟨#[97]⟩ else if i = 2 then ⟨#[97, 98]⟩ else ⟨#[98]⟩
theorem tx_size (i : Nat) : (tx i).size ≤ 2 := by
  unfold tx
  repeat' split
  all_goals decide
theorem tx_row {r : Nat} (h : r < 4) : (#[Value.string ⟨#[]⟩, Value.string ⟨#[97]⟩, Value.string ⟨#[97, 98]⟩, Value.string ⟨#[98]⟩] : Array Value)[r]? = some (.string (tx r)) := by
  match r, h with
  | 0, _ => rfl
  | 1, _ => rfl
  | 2, _ => rfl
  | 3, _ => rfl
theorem tx_cell {r : Nat} (h : r < 4) (V : World) (T : TypeId) : (V.alloc (.cells #[Value.string ⟨#[]⟩, Value.string ⟨#[97]⟩, Value.string ⟨#[97, 98]⟩, Value.string ⟨#[98]⟩] T)).cell? ⟨V.heap.size, r, none⟩ = some (.string (tx r)) := by
  match r, h with
  | 0, _ => simp [tx]
  | 1, _ => simp [tx]
  | 2, _ => simp [tx]
  | 3, _ => simp [tx]

set_option maxHeartbeats 4000000 in
theorem outcome_any (p k t : Nat) (w : World) (hS : Src w p k t) (hk : k ≤ 2000000) (ht : t < 10000) :
    Calls Try.prog 11 #[.pointer (some ⟨p, 0, none⟩)] w fun e w' => ∃ (x s : Int) (o : ByteArray), e = .returned (.agg #[.int .i64 x, .string o, .string ⟨#[]⟩, .int .i64 s]) ∧ o.size ≤ 2 ∧ Src w' p k (t + 3) ∧ Dr p w w' := by
  have hp := hS.lt
  obtain ⟨V0, hV0⟩ : ∃ V0, w.alloc (.cells #[.int .i64 0, .string ⟨#[]⟩, .string ⟨#[]⟩, .int .i64 0] 24) = V0 := ⟨_, rfl⟩
  have HS0 : Hid (Src V0.drew p k t) := by rw [← hV0]; exact (hS.alloc _).drew
  have HN1 : Hid (∀ V, Hid (Src V p k t) → Calls Try.prog 17 #[.pointer (some ⟨p, 0, none⟩), .int .i64 9] V fun e w' => ∃ v, e = .returned v ∧ (∃ r : Nat, v = .int .i64 r ∧ Hid (Src w' p k (t + 1)) ∧ Hid (Dr p V w'))) := fun V h => (next_any p k t 9 V h.out hk (by omega) (by omega) (by omega)).mono (by
    rintro e w' ⟨r, -, rfl, h1, h2⟩
    exact ⟨_, rfl, r, rfl, h1, Dr.only h2⟩)
  have HN2 : Hid (∀ V, Hid (Src V p k (t + 1)) → Calls Try.prog 17 #[.pointer (some ⟨p, 0, none⟩), .int .i64 4] V fun e w' => ∃ v, e = .returned v ∧ (∃ r : Nat, v = .int .i64 r ∧ r < 4 ∧ Hid (Src w' p k (t + 2)) ∧ Hid (Dr p V w'))) := fun V h => (next_any p k (t + 1) 4 V h.out hk (by omega) (by omega) (by omega)).mono (by
    rintro e w' ⟨r, h0, rfl, h1, h2⟩
    exact ⟨_, rfl, r, rfl, h0, h1, Dr.only h2⟩)
  have HN3 : Hid (∀ V, Hid (Src V p k (t + 2)) → Calls Try.prog 17 #[.pointer (some ⟨p, 0, none⟩), .int .i64 5] V fun e w' => ∃ v, e = .returned v ∧ (∃ r : Nat, v = .int .i64 r ∧ Hid (Src w' p k (t + 3)) ∧ Hid (Dr p V w'))) := fun V h => (next_any p k (t + 2) 5 V h.out hk (by omega) (by omega) (by omega)).mono (by
    rintro e w' ⟨r, -, rfl, h1, h2⟩
    exact ⟨_, rfl, r, rfl, h1, Dr.only h2⟩)
  have HB0 : Hid (Bx V0 w.heap.size [.int .i64 0, .string ⟨#[]⟩, .string ⟨#[]⟩, .int .i64 0]) := by unfold Hid; rw [← hV0]; exact Bx.new _ _ _
  have HFB : Hid (∀ V, Hid (Kept (fun c => c ≠ p) V0 V) → (V.cell? ⟨w.heap.size, 0, none⟩ = some (.int .i64 0) ∧ V.cell? ⟨w.heap.size, 1, none⟩ = some (.string ⟨#[]⟩) ∧ V.cell? ⟨w.heap.size, 2, none⟩ = some (.string ⟨#[]⟩) ∧ V.cell? ⟨w.heap.size, 3, none⟩ = some (.int .i64 0)) ∧ V.frozen? ⟨w.heap.size, 0, none⟩ = false ∧ V.frozen? ⟨w.heap.size, 1, none⟩ = false ∧ V.frozen? ⟨w.heap.size, 2, none⟩ = false ∧ V.frozen? ⟨w.heap.size, 3, none⟩ = false) := fun V h => by
    have k := HB0.out.kept h.out (by omega)
    exact ⟨⟨k.cel 0 _ rfl, k.cel 1 _ rfl, k.cel 2 _ rfl, k.cel 3 _ rfl⟩, k.live 0, k.live 1, k.live 2, k.live 3⟩
  have HZ0 : Hid (w.heap.size ≤ V0.heap.size ∧ Below w.heap.size w V0) := by unfold Hid; rw [← hV0]; exact ⟨by simp, below_alloc1 _ _⟩
  have HFI : Hid (∀ V, Hid (Kept (fun c => c ≠ p) V0 V) → Hid (Src V p k (t + 3)) → ∀ x0 x1 x2 x3, Src ((((V.setCell ⟨w.heap.size, 0, none⟩ x0).setCell ⟨w.heap.size, 1, none⟩ x1).setCell ⟨w.heap.size, 2, none⟩ x2).setCell ⟨w.heap.size, 3, none⟩ x3) p k (t + 3) ∧ Dr p w ((((V.setCell ⟨w.heap.size, 0, none⟩ x0).setCell ⟨w.heap.size, 1, none⟩ x1).setCell ⟨w.heap.size, 2, none⟩ x2).setCell ⟨w.heap.size, 3, none⟩ x3)) := fun V h1 h2 x0 x1 x2 x3 => fin_out HZ0.out.1 HZ0.out.2 h1.out h2.out hp x0 x1 x2 x3
  have HV0 := hide hV0
  clear hV0 hS ht
  go_enter Try.func11, Try.ntmps11
  go_upto_region 1 with fail
  rw [HV0.out]
  have HP0 : Hid (p < V0.drew.heap.size) := HS0.out.lt
  go_region_law (first
    | (refine step_call (by rfl) 17 #[.pointer (some ⟨p, 0, none⟩), .int .i64 9] (by simp [go_sem]) _ (HN1.out _ (by first | exact HS0 | exact HS0.out.alloc _ | exact (HS0.out.alloc _).drew)) ?_; rintro v w1 ⟨r1, rfl, S1, D1⟩; have K1 : Hid (Kept (fun c => c ≠ p) V0 w1) := (by first | exact (Kept.drew _ _).trans D1.out.kept | exact ((Kept.drew _ _).trans (Kept.alloc _ _ _)).trans D1.out.kept); (first | (have R1 : Hid (∀ r, r < 4 → w1.cell? ⟨V0.heap.size, r, none⟩ = some (.string (tx r))) := (fun r hr => (D1.out.cell (b := V0.drew.heap.size) (by simp) (Nat.ne_of_gt HP0.out)).trans (tx_cell hr V0.drew _))) | skip))
    | (refine step_call (by rfl) 17 #[.pointer (some ⟨p, 0, none⟩), .int .i64 4] (by simp [go_sem]) _ (HN2.out _ (by first | exact S1 | exact S1.out.alloc _ | exact (S1.out.alloc _).drew)) ?_; rintro v w2 ⟨r2, rfl, h2, S2, D2⟩; have K2 : Hid (Kept (fun c => c ≠ p) V0 w2) := (by first | exact K1.out.trans D2.out.kept | exact (K1.out.trans (Kept.alloc _ _ _)).trans D2.out.kept); have i2 : ((r2 : Int) < 4) := (by omega); have c2 := tx_cell h2; (first | (have c2a : w2.cell? ⟨w1.heap.size, r2, none⟩ = some (.string (tx r2)) := ((D2.out.cell (b := w1.heap.size) (by simp) (Nat.ne_of_gt S1.out.lt)).trans (tx_cell h2 w1 _))) | (have c2b : w2.cell? ⟨V0.heap.size, r2, none⟩ = some (.string (tx r2)) := ((D2.out.cell (b := V0.heap.size) (block_lt_of_cell (R1.out r2 h2)) (Nat.ne_of_gt HP0.out)).trans (R1.out r2 h2))) | skip))
    | (refine step_call (by rfl) 17 #[.pointer (some ⟨p, 0, none⟩), .int .i64 5] (by simp [go_sem]) _ (HN3.out _ (by first | exact S2 | exact S2.out.alloc _ | exact (S2.out.alloc _).drew)) ?_; rintro v w3 ⟨r3, rfl, S3, D3⟩; have K3 : Hid (Kept (fun c => c ≠ p) V0 w3) := (by first | exact K2.out.trans D3.out.kept | exact (K2.out.trans (Kept.alloc _ _ _)).trans D3.out.kept); have kb := HFB.out w3 K3; have kb' := HFB.out (w3.alloc (.cells #[Value.string ⟨#[]⟩, Value.string ⟨#[97]⟩, Value.string ⟨#[97, 98]⟩, Value.string ⟨#[98]⟩] 9)) (K3.out.trans (Kept.alloc _ _ _)); (first | (have c3a : w3.cell? ⟨w2.heap.size, r2, none⟩ = some (.string (tx r2)) := ((D3.out.cell (b := w2.heap.size) (by simp) (Nat.ne_of_gt S2.out.lt)).trans (tx_cell h2 w2 _))) | (have c3b : w3.cell? ⟨w1.heap.size, r2, none⟩ = some (.string (tx r2)) := ((D3.out.cell (b := w1.heap.size) (block_lt_of_cell c2a) (Nat.ne_of_gt S1.out.lt)).trans c2a)) | (have c3c : w3.cell? ⟨V0.heap.size, r2, none⟩ = some (.string (tx r2)) := ((D3.out.cell (b := V0.heap.size) (block_lt_of_cell c2b) (Nat.ne_of_gt HP0.out)).trans c2b)) | skip))
    | fail)
  all_goals
    clear HN1 HN2 HN3 HFB
    go_wp2_with fail
    refine bodyPost_ret (v := .agg #[.int .i64 r1, .string (tx r2), .string ⟨#[]⟩, .int .i64 r3]) (by simp [results, Try.results11, go_sem, kb, kb']) rfl ⟨_, _, _, rfl, tx_size _, ?_⟩
    first | with_reducible exact HFI.out w3 K3 S3 _ _ _ _ | exact HFI.out _ (K3.out.trans (Kept.alloc _ _ _)) (S3.out.alloc _) _ _ _ _
end Go.Proofs.Ytpgbaidkhjaocaa
