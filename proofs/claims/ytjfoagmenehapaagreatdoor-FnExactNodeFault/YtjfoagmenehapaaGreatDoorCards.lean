/-
  DERIVED. GIVEN WITH THE SEED: THE CARDS: each row of YtjfoagmenehapaaGreatDoorRows.lean that lists a variable, with what it lists TIED to the program's text (the seventh form; the later family's looks); each row that meets fmt, with fmt's text TOLD by the authors' own Lean function (tested against real Go, not proved from fmt's source: count such statements apart). THE CARD IS WHAT COUNTS. Prove the row's statement (the work); the ties are given (YtjfoagmenehapaaGreatDoorTie.lean); close each card by the builder's one call (the guide's Derived/Test/ToyasCard.lean, 'card_holds'). Laid BY PROGRAM, IN A SANDBOX (cutbox-door.mjs). By AI agents, Wed Nov 11 2026. No macro, syntax, notation, axiom, sorry.
-/
import Derived.Test.YtjfoagmenehapaaGreatDoorRows
import GoSem.ClaimSeven
namespace Go.Proofs.YtjfoagmenehapaaGreatDoor
namespace Rows

/-- THE TIED CARD OF 'laws.FnExactNodeFault'. -/
def fnExactNodeFaultCard : Claim7 := { stood := { row := fnExactNodeFaultRow, standIns := [], harness := (true, "aefd88386b145470b9e49966be95fc5637defe3a45a95313831a478eada0e5f7"), looks := false }, kinds := [], alts := [], laidByText := true, laidKinds := [.data, .listed, .data, .pinned], laidTests := true, laidLooks := .later }
def FnExactNodeFaultCardSaid : Prop := Claim7.holds Tryz.pinned (.plain (OpenSpec.ofChange fnExactNodeFaultSpec)) fnExactNodeFaultCard

/-- THE SECOND FORM's CARD OF 'laws.FnExactNodeFault'. -/
def fnExactNodeFaultUptoCard : Claim7 := { stood := { row := fnExactNodeFaultUptoRow, standIns := [], harness := (true, "aefd88386b145470b9e49966be95fc5637defe3a45a95313831a478eada0e5f7"), looks := false }, kinds := [], alts := [], laidByText := true, laidKinds := [.data, .listed, .data, .pinned], laidTests := true, laidLooks := .later }
def FnExactNodeFaultUptoCardSaid : Prop := Claim7.holds Tryz.pinned (.plain (OpenSpec.upto fnExactNodeFaultSpec)) fnExactNodeFaultUptoCard
end Rows
end Go.Proofs.YtjfoagmenehapaaGreatDoor
