import Derived.Test.YtpcnmolncoaddaaBigs
import Derived.ProofKit
import Derived.OpenShut
import Derived.ShutString
import Derived.ChangeOld
namespace Go.Proofs.Ytpcnmolncoaddaa
open Go.ChangeShapes Go.WideShapes Go.ChangeAt Go.RowKit Go.Joins

theorem Try.own : ownKnob Try.prog.godebug = none := by kernel_rfl
theorem Try.laidOut : laidOutB Try.prog = true := by kernel_rfl
theorem Try.cells46 : Try.prog.cellsOf 46 = 2 := by kernel_rfl
theorem Try.cells60 : Try.prog.cellsOf 60 = 1 := by kernel_rfl

theorem addr_add (b o j : Nat) : (⟨b, o, none⟩ : Addr).add j = ⟨b, o + j, none⟩ := by unfold Addr.add; split <;> simp_all

set_option maxRecDepth 100000 in
theorem open_big {H : Type} {enc : TypeId × Value → H} {W : World} {r : Reach} {base : Nat} {v : Value} {d : DataW H} {p : List MemPlace}
    (hv : Value.okWide Try.prog W r base 46 v) (h : DataW.Trod enc Try.prog W 0 (fun _ => true) true 46 v d p) :
    ∃ (m : Bool) (u : Value) (n : Nat) (f : Nat → Nat), v = .agg #[.bool m, u] ∧ Lim W u n f := by
  obtain ⟨c0, c1, y0, y1, k, rfl, -, -, hy0, hy1⟩ := open_agg2 Try.underlying46 (by kernel_rfl) Try.cells46 hv h
  obtain ⟨m, e0, -⟩ := DataW.trod_bool Try.underlying4 hy0
  simp at e0
  subst e0
  refine ⟨m, c1, ?_⟩
  rcases open_ints Try.underlying23 Try.underlying60 Try.cells60 hy1 with ⟨hcs, _⟩ | ⟨x, l, c, zs, hcs, _, hl, hm, hz, _, hcell, hwz⟩
  · simp at hcs
    subst hcs
    exact ⟨0, fun _ => 0, rfl, none, 0, rfl, Nat.le_refl _, by unfold maxLen; omega, fun i hi => by omega, fun h0 => by omega⟩
  · simp at hcs
    subst hcs
    have hb : ∀ i, i < l → 0 ≤ zs.getD i 0 ∧ zs.getD i 0 < 4294967296 := by
      intro i _
      have := range_u32 hwz i
      rw [List.getD_eq_getElem?_getD]
      omega
    refine ⟨l, fun i => (zs.getD i 0).toNat, rfl, some x, c, rfl, hl, hm, fun i hi => by have := hb i hi; show (zs.getD i 0).toNat < _; omega, fun h0 => ?_⟩
    obtain ⟨b, off, spot⟩ := x
    have hz' : zs.length = c := by simpa using hz
    have hc := hcell 0 (by omega)
    have hspot : spot = none := by simpa [Addr.add] using World.cell?_spot hc
    subst hspot
    refine ⟨b, off, rfl, fun i hi => ?_⟩
    have := hcell i (by omega)
    rw [Int.toNat_of_nonneg (hb i hi).1]
    rw [addr_add] at this
    exact this


end Go.Proofs.Ytpcnmolncoaddaa
