/-
  NARROWER THAN 'FOR EVERY INPUT', by the rows' own cells (each row's printed sentence says how): FnExactMainKind: loops · FnExactSameType: loops.
  DERIVED. THE GIVEN ROWS OF THIS SEAT. 3 by the template 'for every input the law returns true; each argument reads behind the call as it read before'; 0 by the template 'total and deterministic' (their statements: YtanjgmmkodlffaaTotals.lean).
  GIVEN WITH THE SEED: the statements are not yours to turn. If you find one false, say at which input.
  Laid BY PROGRAM, IN A SANDBOX (cutbox-rows.mjs): the forced cells as the released guide's own fill.sh prints them over the translation f16aeaba6595f2b3… (all of the seat's roots in one cut). By AI agents, Wed Nov 11 2026. No macro, syntax, notation, axiom, sorry.
-/
import Derived.Test.YtanjgmmkodlffaaChecked
import GoSem.Claim
import GoSem.ClaimJoined
import GoSem.ClaimMapViews
import Derived.JoinedTies
import Derived.KernelRfl
namespace Go.Proofs.Ytanjgmmkodlffaa
/- THE CELL 'sum', in the pinned program and in every row, IS THE sha256 OF THE DUMP (.gsa) THAT YtanjgmmkodlffaaProg.lean LOADS. Nothing in Lean hashes anything: it is a label: what it is worth is what the hold of that sum in a sandbox is worth. -/
noncomputable def Try.pinned : Pinned := { name := "ytanjgmmkodlffaa", sum := "f16aeaba6595f2b32285cbd10ac3f1039507878c8b2e90067fcd2ce88b2f956d", checked := Try.checked }
namespace Rows
def none {H : Type} : Left H := { results := [], args := [] }

/-- 'laws.FnExactBuiltinType': WHATEVER THE INPUT: true; the input reads as it did. -/
def fnExactBuiltinTypeSpec : ChangeSpec := { name := "fnExactBuiltinType", fn := fun _ => fun
  | [d] => { results := [.lit (.bool true)], args := [d] }
  | _ => none }
def fnExactBuiltinTypeRow : OpenClaim := { program := "ytanjgmmkodlffaa", sum := "f16aeaba6595f2b32285cbd10ac3f1039507878c8b2e90067fcd2ce88b2f956d", func := "loop.example/g00017/laws.FnExactBuiltinType", spec := "fnExactBuiltinType", unfollowed := true, recurses := true, plainKeys := false, apart := false }
def FnExactBuiltinTypeSaid : Prop := fnExactBuiltinTypeRow.holds Try.pinned (OpenSpec.ofChange fnExactBuiltinTypeSpec)

/-- ITS FALSE NEIGHBOUR: 'it returns false'. Refute it at one input. -/
def fnExactBuiltinTypeWrong : ChangeSpec := { name := "fnExactBuiltinType", fn := fun _ => fun
  | [d] => { results := [.lit (.bool false)], args := [d] }
  | _ => none }
def FnExactBuiltinTypeWrongFalsely : Prop := fnExactBuiltinTypeRow.holds Try.pinned (OpenSpec.ofChange fnExactBuiltinTypeWrong)

/-- 'laws.FnExactMainKind': WHATEVER THE INPUT: true; the input reads as it did. -/
def fnExactMainKindSpec : ChangeSpec := { name := "fnExactMainKind", fn := fun _ => fun
  | [d] => { results := [.lit (.bool true)], args := [d] }
  | _ => none }
def fnExactMainKindRow : OpenClaim := { program := "ytanjgmmkodlffaa", sum := "f16aeaba6595f2b32285cbd10ac3f1039507878c8b2e90067fcd2ce88b2f956d", func := "loop.example/g00017/laws.FnExactMainKind", spec := "fnExactMainKind", unfollowed := true, recurses := true, loops := true, plainKeys := false, apart := false }
def FnExactMainKindSaid : Prop := fnExactMainKindRow.holds Try.pinned (OpenSpec.ofChange fnExactMainKindSpec)

/-- ITS FALSE NEIGHBOUR: 'it returns false'. Refute it at one input. -/
def fnExactMainKindWrong : ChangeSpec := { name := "fnExactMainKind", fn := fun _ => fun
  | [d] => { results := [.lit (.bool false)], args := [d] }
  | _ => none }
def FnExactMainKindWrongFalsely : Prop := fnExactMainKindRow.holds Try.pinned (OpenSpec.ofChange fnExactMainKindWrong)

/-- 'laws.FnExactSameType': WHATEVER THE INPUT: true; the input reads as it did. -/
def fnExactSameTypeSpec : ChangeSpec := { name := "fnExactSameType", fn := fun _ => fun
  | [d1, d2] => { results := [.lit (.bool true)], args := [d1, d2] }
  | _ => none }
def fnExactSameTypeRow : OpenClaim := { program := "ytanjgmmkodlffaa", sum := "f16aeaba6595f2b32285cbd10ac3f1039507878c8b2e90067fcd2ce88b2f956d", func := "loop.example/g00017/laws.FnExactSameType", spec := "fnExactSameType", recurses := true, loops := true, plainKeys := false, apart := false }
def FnExactSameTypeSaid : Prop := fnExactSameTypeRow.holds Try.pinned (OpenSpec.ofChange fnExactSameTypeSpec)

/-- ITS FALSE NEIGHBOUR: 'it returns false'. Refute it at one input. -/
def fnExactSameTypeWrong : ChangeSpec := { name := "fnExactSameType", fn := fun _ => fun
  | [d1, d2] => { results := [.lit (.bool false)], args := [d1, d2] }
  | _ => none }
def FnExactSameTypeWrongFalsely : Prop := fnExactSameTypeRow.holds Try.pinned (OpenSpec.ofChange fnExactSameTypeWrong)

/- THE SECOND FORM. 'bulk': how many values and letters a reading holds, each counted each time it is reached (what is shared counts as often as it is met; a slice's spare places count too). A statement '..UptoSaid' is the law's where the arguments, and the package variables that the reading takes, are together of bulk at most 1048576: NARROWER than '..Said'. Prove '..Said' where nothing that the law and all that it calls make is longer than what came in: it says more and counts as full. Else prove '..UptoSaid'. A law counts once. -/
mutual
def uptoBulk {H : Type} : DataW H → Nat
  | .lit (.string bytes) => bytes.length + 1
  | .lit _ => 1
  | .nil => 1
  | .ptr d => uptoBulk d + 1
  | .slice elems spare => uptoBulkAll elems + uptoBulkAll spare + 1
  | .agg parts => uptoBulkAll parts + 1
  | .iface _ d => uptoBulk d + 1
  | .map entries => uptoBulkEntries entries + 1
  | .held _ => 1
def uptoBulkAll {H : Type} : List (DataW H) → Nat
  | [] => 0
  | d :: r => uptoBulk d + uptoBulkAll r
def uptoBulkEntries {H : Type} : List (Lit × DataW H) → Nat
  | [] => 0
  | x :: r => uptoBulkEntry x + uptoBulkEntries r
def uptoBulkEntry {H : Type} : Lit × DataW H → Nat
  | (.string bytes, d) => bytes.length + uptoBulk d + 1
  | (_, d) => uptoBulk d + 1
 end
def uptoSmall : (H : Type) → List (DataW H) → Bool := fun _ ds => decide (uptoBulkAll ds ≤ 1048576)
def OpenSpec.upto (s : _root_.Go.ChangeSpec) : _root_.Go.OpenSpec := { _root_.Go.OpenSpec.ofChange s with cond := some uptoSmall }

/-- 'laws.FnExactBuiltinType', WHERE WHAT IT READS IS OF BULK AT MOST 1048576: true; the input reads as it did. -/
def fnExactBuiltinTypeUptoRow : OpenClaim := { program := "ytanjgmmkodlffaa", sum := "f16aeaba6595f2b32285cbd10ac3f1039507878c8b2e90067fcd2ce88b2f956d", func := "loop.example/g00017/laws.FnExactBuiltinType", spec := "fnExactBuiltinType", unfollowed := true, recurses := true, plainKeys := false, apart := false, narrowed := true }
def FnExactBuiltinTypeUptoSaid : Prop := fnExactBuiltinTypeUptoRow.holds Try.pinned (OpenSpec.upto fnExactBuiltinTypeSpec)

/-- 'laws.FnExactMainKind', WHERE WHAT IT READS IS OF BULK AT MOST 1048576: true; the input reads as it did. -/
def fnExactMainKindUptoRow : OpenClaim := { program := "ytanjgmmkodlffaa", sum := "f16aeaba6595f2b32285cbd10ac3f1039507878c8b2e90067fcd2ce88b2f956d", func := "loop.example/g00017/laws.FnExactMainKind", spec := "fnExactMainKind", unfollowed := true, recurses := true, loops := true, plainKeys := false, apart := false, narrowed := true }
def FnExactMainKindUptoSaid : Prop := fnExactMainKindUptoRow.holds Try.pinned (OpenSpec.upto fnExactMainKindSpec)

/-- 'laws.FnExactSameType', WHERE WHAT IT READS IS OF BULK AT MOST 1048576: true; the input reads as it did. -/
def fnExactSameTypeUptoRow : OpenClaim := { program := "ytanjgmmkodlffaa", sum := "f16aeaba6595f2b32285cbd10ac3f1039507878c8b2e90067fcd2ce88b2f956d", func := "loop.example/g00017/laws.FnExactSameType", spec := "fnExactSameType", recurses := true, loops := true, plainKeys := false, apart := false, narrowed := true }
def FnExactSameTypeUptoSaid : Prop := fnExactSameTypeUptoRow.holds Try.pinned (OpenSpec.upto fnExactSameTypeSpec)

end Rows
end Go.Proofs.Ytanjgmmkodlffaa
