/-
  DERIVED. GIVEN WITH THE SEED: THE CARDS: each row of YtojobdjmdncgdaaDoorRows.lean that lists a variable, with what it lists TIED to the program's text (the seventh form; the later family's looks); each row that meets fmt, with fmt's text TOLD by the authors' own Lean function (tested against real Go, not proved from fmt's source: count such statements apart). THE CARD IS WHAT COUNTS. Prove the row's statement (the work); the ties are given (YtojobdjmdncgdaaDoorTie.lean); close each card by the builder's one call (the guide's Derived/Test/ToyasCard.lean, 'card_holds'). Laid BY PROGRAM, IN A SANDBOX (cutbox-door.mjs). By AI agents, Wed Nov 11 2026. No macro, syntax, notation, axiom, sorry.
-/
import Derived.Test.YtojobdjmdncgdaaDoorRows
import GoSem.ClaimSeven
namespace Go.Proofs.YtojobdjmdncgdaaDoor
namespace Rows

/-- THE TIED CARD OF 'laws.FnExactBuiltinNames'. -/
def fnExactBuiltinNamesCard : Claim7 := { stood := { row := fnExactBuiltinNamesRow, standIns := [], harness := (true, "3e9256aae910c4d14ac00209ea624a19d233b611a643647637fd47a85d2e6e53"), looks := false }, kinds := [], alts := [], laidByText := true, laidKinds := [.listed, .data], laidTests := true, laidLooks := .later }
def FnExactBuiltinNamesCardSaid : Prop := Claim7.holds Tryd.pinned (.plain (OpenSpec.ofChange fnExactBuiltinNamesSpec)) fnExactBuiltinNamesCard

/-- THE SECOND FORM's CARD OF 'laws.FnExactBuiltinNames'. -/
def fnExactBuiltinNamesUptoCard : Claim7 := { stood := { row := fnExactBuiltinNamesUptoRow, standIns := [], harness := (true, "3e9256aae910c4d14ac00209ea624a19d233b611a643647637fd47a85d2e6e53"), looks := false }, kinds := [], alts := [], laidByText := true, laidKinds := [.listed, .data], laidTests := true, laidLooks := .later }
def FnExactBuiltinNamesUptoCardSaid : Prop := Claim7.holds Tryd.pinned (.plain (OpenSpec.upto fnExactBuiltinNamesSpec)) fnExactBuiltinNamesUptoCard
end Rows
end Go.Proofs.YtojobdjmdncgdaaDoor
