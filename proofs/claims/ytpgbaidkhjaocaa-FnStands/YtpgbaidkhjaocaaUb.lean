import Derived.Test.YtpgbaidkhjaocaaRows
import Derived.ProofKit
import Derived.OpenShut
import Derived.ShutString
import Derived.ChangeOld
import Derived.Laws.Rows
import Derived.WideShapes
import Derived.Lib.SmallJoins
namespace Go.Proofs.Ytpgbaidkhjaocaa.D
open Go.ChangeShapes Go.WideShapes Go.ChangeAt Go.RowKit Go.Joins

/-- Bytes as an argument. -/
def Byt (w : World) (v : Value) (k : Nat) : Prop :=
  ∃ (a : Option Addr) (c : Nat), v = .slice a k c ∧ k ≤ c ∧ (0 < k → ∃ b off, a = some ⟨b, off, none⟩ ∧ ∃ g : Nat → Nat, ∀ i, i < k → g i < 256 ∧ w.cell? ⟨b, off + i, none⟩ = some (.int .u8 (g i)))

theorem cells5 : Try.prog.cellsOf 5 = 1 := by kernel_rfl

theorem addr_add (b o j : Nat) : (⟨b, o, none⟩ : Addr).add j = ⟨b, o + j, none⟩ := by unfold Addr.add; split <;> simp_all

set_option maxRecDepth 100000 in
theorem open_byt {H : Type} {enc : TypeId × Value → H} {W : World} {r : Reach} {base : Nat} {v : Value} {d : DataW H} {p : List MemPlace}
    (hv : Value.okWide Try.prog W r base 22 v) (h : DataW.Trod enc Try.prog W 0 (fun _ => true) true 22 v d p) : ∃ k, Byt W v k ∧ k ≤ 9223372036854775807 := by
  obtain ⟨a1, len, cap, rfl⟩ := okWide_slice Try.underlying22 hv
  obtain ⟨fuel, hf⟩ := h
  rcases open_ints Try.underlying22 Try.underlying5 cells5 hf with ⟨hcs, hx⟩ | ⟨a, len', cap', zs, hcs, _, hl, hm, hz, hx, hcell, hwz⟩
  · simp [Value.cells] at hcs
    obtain ⟨rfl, rfl, rfl⟩ := hcs
    exact ⟨0, ⟨none, 0, rfl, Nat.le_refl _, fun h => by omega⟩, by omega⟩
  · simp [Value.cells] at hcs
    obtain ⟨rfl, rfl, rfl⟩ := hcs
    have hz' : zs.length = cap := by simpa using hz
    have hb : ∀ i, 0 ≤ zs.getD i 0 ∧ zs.getD i 0 < 256 := by
      intro i
      have := range_u8 hwz i
      rw [List.getD_eq_getElem?_getD]
      omega
    refine ⟨len, ⟨some a, cap, rfl, hl, fun h0 => ?_⟩, by unfold maxLen at hm; omega⟩
    obtain ⟨b, off, spot⟩ := a
    have hc := hcell 0 (by omega)
    have hspot : spot = none := by simpa [Addr.add] using World.cell?_spot hc
    subst hspot
    refine ⟨b, off, rfl, fun i => (zs.getD i 0).toNat, fun i hi => ⟨by have := hb i; show (zs.getD i 0).toNat < 256; omega, ?_⟩⟩
    have := hcell i (by omega)
    rw [Int.toNat_of_nonneg (hb i).1]
    rw [addr_add] at this
    exact this

end Go.Proofs.Ytpgbaidkhjaocaa.D
