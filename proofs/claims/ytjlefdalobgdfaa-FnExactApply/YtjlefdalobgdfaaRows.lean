/-
  NARROWER THAN 'FOR EVERY INPUT', by the rows' own cells (each row's printed sentence says how): FnExactTypeFault: loops · FnExactSameType: loops · FnExactFreeIds: loops · FnExactApply: loops · FnExactClose: loops · FnExactOpen: loops.
  DERIVED. THE GIVEN ROWS OF THIS SEAT. 6 by the template 'for every input the law returns true; each argument reads behind the call as it read before'; 0 by the template 'total and deterministic' (their statements: YtjlefdalobgdfaaTotals.lean).
  GIVEN WITH THE SEED: the statements are not yours to turn. If you find one false, say at which input.
  Laid BY PROGRAM, IN A SANDBOX (cutbox-rows.mjs): the forced cells as the released guide's own fill.sh prints them over the translation 62960665045f79af… (all of the seat's roots in one cut). By AI agents, Wed Nov 11 2026. No macro, syntax, notation, axiom, sorry.
-/
import Derived.Test.YtjlefdalobgdfaaChecked
import GoSem.Claim
import GoSem.ClaimJoined
import GoSem.ClaimMapViews
import Derived.JoinedTies
import Derived.KernelRfl
namespace Go.Proofs.Ytjlefdalobgdfaa
/- THE CELL 'sum', in the pinned program and in every row, IS THE sha256 OF THE DUMP (.gsa) THAT YtjlefdalobgdfaaProg.lean LOADS. Nothing in Lean hashes anything: it is a label: what it is worth is what the hold of that sum in a sandbox is worth. -/
noncomputable def Try.pinned : Pinned := { name := "ytjlefdalobgdfaa", sum := "62960665045f79af82f47ebd3e098f9d5b10325af676aa4d5ab138fb12fc7a40", checked := Try.checked }
namespace Rows
def none {H : Type} : Left H := { results := [], args := [] }

/-- 'laws.FnExactTypeFault': WHATEVER THE INPUT: true; the input reads as it did. -/
def fnExactTypeFaultSpec : ChangeSpec := { name := "fnExactTypeFault", fn := fun _ => fun
  | [d] => { results := [.lit (.bool true)], args := [d] }
  | _ => none }
def fnExactTypeFaultRow : OpenClaim := { program := "ytjlefdalobgdfaa", sum := "62960665045f79af82f47ebd3e098f9d5b10325af676aa4d5ab138fb12fc7a40", func := "loop.example/g00017/laws.FnExactTypeFault", spec := "fnExactTypeFault", unfollowed := true, recurses := true, loops := true, plainKeys := false, apart := false }
def FnExactTypeFaultSaid : Prop := fnExactTypeFaultRow.holds Try.pinned (OpenSpec.ofChange fnExactTypeFaultSpec)

/-- ITS FALSE NEIGHBOUR: 'it returns false'. Refute it at one input. -/
def fnExactTypeFaultWrong : ChangeSpec := { name := "fnExactTypeFault", fn := fun _ => fun
  | [d] => { results := [.lit (.bool false)], args := [d] }
  | _ => none }
def FnExactTypeFaultWrongFalsely : Prop := fnExactTypeFaultRow.holds Try.pinned (OpenSpec.ofChange fnExactTypeFaultWrong)

/-- 'laws.FnExactSameType': WHATEVER THE INPUT: true; the input reads as it did. -/
def fnExactSameTypeSpec : ChangeSpec := { name := "fnExactSameType", fn := fun _ => fun
  | [d1, d2] => { results := [.lit (.bool true)], args := [d1, d2] }
  | _ => none }
def fnExactSameTypeRow : OpenClaim := { program := "ytjlefdalobgdfaa", sum := "62960665045f79af82f47ebd3e098f9d5b10325af676aa4d5ab138fb12fc7a40", func := "loop.example/g00017/laws.FnExactSameType", spec := "fnExactSameType", recurses := true, loops := true, plainKeys := false, apart := false }
def FnExactSameTypeSaid : Prop := fnExactSameTypeRow.holds Try.pinned (OpenSpec.ofChange fnExactSameTypeSpec)

/-- ITS FALSE NEIGHBOUR: 'it returns false'. Refute it at one input. -/
def fnExactSameTypeWrong : ChangeSpec := { name := "fnExactSameType", fn := fun _ => fun
  | [d1, d2] => { results := [.lit (.bool false)], args := [d1, d2] }
  | _ => none }
def FnExactSameTypeWrongFalsely : Prop := fnExactSameTypeRow.holds Try.pinned (OpenSpec.ofChange fnExactSameTypeWrong)

/-- 'laws.FnExactFreeIds': WHATEVER THE INPUT: true; the input reads as it did. -/
def fnExactFreeIdsSpec : ChangeSpec := { name := "fnExactFreeIds", fn := fun _ => fun
  | [d] => { results := [.lit (.bool true)], args := [d] }
  | _ => none }
def fnExactFreeIdsRow : OpenClaim := { program := "ytjlefdalobgdfaa", sum := "62960665045f79af82f47ebd3e098f9d5b10325af676aa4d5ab138fb12fc7a40", func := "loop.example/g00017/laws.FnExactFreeIds", spec := "fnExactFreeIds", unfollowed := true, recurses := true, loops := true, plainKeys := false, apart := false }
def FnExactFreeIdsSaid : Prop := fnExactFreeIdsRow.holds Try.pinned (OpenSpec.ofChange fnExactFreeIdsSpec)

/-- ITS FALSE NEIGHBOUR: 'it returns false'. Refute it at one input. -/
def fnExactFreeIdsWrong : ChangeSpec := { name := "fnExactFreeIds", fn := fun _ => fun
  | [d] => { results := [.lit (.bool false)], args := [d] }
  | _ => none }
def FnExactFreeIdsWrongFalsely : Prop := fnExactFreeIdsRow.holds Try.pinned (OpenSpec.ofChange fnExactFreeIdsWrong)

/-- 'laws.FnExactApply': WHATEVER THE INPUT: true; the input reads as it did. -/
def fnExactApplySpec : ChangeSpec := { name := "fnExactApply", fn := fun _ => fun
  | [d1, d2] => { results := [.lit (.bool true)], args := [d1, d2] }
  | _ => none }
def fnExactApplyRow : OpenClaim := { program := "ytjlefdalobgdfaa", sum := "62960665045f79af82f47ebd3e098f9d5b10325af676aa4d5ab138fb12fc7a40", func := "loop.example/g00017/laws.FnExactApply", spec := "fnExactApply", unfollowed := true, recurses := true, loops := true, plainKeys := false, apart := false }
def FnExactApplySaid : Prop := fnExactApplyRow.holds Try.pinned (OpenSpec.ofChange fnExactApplySpec)

/-- ITS FALSE NEIGHBOUR: 'it returns false'. Refute it at one input. -/
def fnExactApplyWrong : ChangeSpec := { name := "fnExactApply", fn := fun _ => fun
  | [d1, d2] => { results := [.lit (.bool false)], args := [d1, d2] }
  | _ => none }
def FnExactApplyWrongFalsely : Prop := fnExactApplyRow.holds Try.pinned (OpenSpec.ofChange fnExactApplyWrong)

/-- 'laws.FnExactClose': WHATEVER THE INPUT: true; the input reads as it did. -/
def fnExactCloseSpec : ChangeSpec := { name := "fnExactClose", fn := fun _ => fun
  | [d1, d2, d3] => { results := [.lit (.bool true)], args := [d1, d2, d3] }
  | _ => none }
def fnExactCloseRow : OpenClaim := { program := "ytjlefdalobgdfaa", sum := "62960665045f79af82f47ebd3e098f9d5b10325af676aa4d5ab138fb12fc7a40", func := "loop.example/g00017/laws.FnExactClose", spec := "fnExactClose", unfollowed := true, recurses := true, loops := true, plainKeys := false, apart := false }
def FnExactCloseSaid : Prop := fnExactCloseRow.holds Try.pinned (OpenSpec.ofChange fnExactCloseSpec)

/-- ITS FALSE NEIGHBOUR: 'it returns false'. Refute it at one input. -/
def fnExactCloseWrong : ChangeSpec := { name := "fnExactClose", fn := fun _ => fun
  | [d1, d2, d3] => { results := [.lit (.bool false)], args := [d1, d2, d3] }
  | _ => none }
def FnExactCloseWrongFalsely : Prop := fnExactCloseRow.holds Try.pinned (OpenSpec.ofChange fnExactCloseWrong)

/-- 'laws.FnExactOpen': WHATEVER THE INPUT: true; the input reads as it did. -/
def fnExactOpenSpec : ChangeSpec := { name := "fnExactOpen", fn := fun _ => fun
  | [d1, d2] => { results := [.lit (.bool true)], args := [d1, d2] }
  | _ => none }
def fnExactOpenRow : OpenClaim := { program := "ytjlefdalobgdfaa", sum := "62960665045f79af82f47ebd3e098f9d5b10325af676aa4d5ab138fb12fc7a40", func := "loop.example/g00017/laws.FnExactOpen", spec := "fnExactOpen", unfollowed := true, recurses := true, loops := true, plainKeys := false, apart := false }
def FnExactOpenSaid : Prop := fnExactOpenRow.holds Try.pinned (OpenSpec.ofChange fnExactOpenSpec)

/-- ITS FALSE NEIGHBOUR: 'it returns false'. Refute it at one input. -/
def fnExactOpenWrong : ChangeSpec := { name := "fnExactOpen", fn := fun _ => fun
  | [d1, d2] => { results := [.lit (.bool false)], args := [d1, d2] }
  | _ => none }
def FnExactOpenWrongFalsely : Prop := fnExactOpenRow.holds Try.pinned (OpenSpec.ofChange fnExactOpenWrong)

/- THE SECOND FORM. 'bulk': how many values and letters a reading holds, each counted each time it is reached (what is shared counts as often as it is met; a slice's spare places count too). A statement '..UptoSaid' is the law's where the arguments, and the package variables that the reading takes, are together of bulk at most 1048576: NARROWER than '..Said'. Prove '..Said' where nothing that the law and all that it calls make is longer than what came in: it says more and counts as full. Else prove '..UptoSaid'. A law counts once. -/
mutual
def uptoBulk {H : Type} : DataW H → Nat
  | .lit (.string bytes) => bytes.length + 1
  | .lit _ => 1
  | .nil => 1
  | .ptr d => uptoBulk d + 1
  | .slice elems spare => uptoBulkAll elems + uptoBulkAll spare + 1
  | .agg parts => uptoBulkAll parts + 1
  | .iface _ d => uptoBulk d + 1
  | .map entries => uptoBulkEntries entries + 1
  | .held _ => 1
def uptoBulkAll {H : Type} : List (DataW H) → Nat
  | [] => 0
  | d :: r => uptoBulk d + uptoBulkAll r
def uptoBulkEntries {H : Type} : List (Lit × DataW H) → Nat
  | [] => 0
  | x :: r => uptoBulkEntry x + uptoBulkEntries r
def uptoBulkEntry {H : Type} : Lit × DataW H → Nat
  | (.string bytes, d) => bytes.length + uptoBulk d + 1
  | (_, d) => uptoBulk d + 1
 end
def uptoSmall : (H : Type) → List (DataW H) → Bool := fun _ ds => decide (uptoBulkAll ds ≤ 1048576)
def OpenSpec.upto (s : _root_.Go.ChangeSpec) : _root_.Go.OpenSpec := { _root_.Go.OpenSpec.ofChange s with cond := some uptoSmall }

/-- 'laws.FnExactTypeFault', WHERE WHAT IT READS IS OF BULK AT MOST 1048576: true; the input reads as it did. -/
def fnExactTypeFaultUptoRow : OpenClaim := { program := "ytjlefdalobgdfaa", sum := "62960665045f79af82f47ebd3e098f9d5b10325af676aa4d5ab138fb12fc7a40", func := "loop.example/g00017/laws.FnExactTypeFault", spec := "fnExactTypeFault", unfollowed := true, recurses := true, loops := true, plainKeys := false, apart := false, narrowed := true }
def FnExactTypeFaultUptoSaid : Prop := fnExactTypeFaultUptoRow.holds Try.pinned (OpenSpec.upto fnExactTypeFaultSpec)

/-- 'laws.FnExactSameType', WHERE WHAT IT READS IS OF BULK AT MOST 1048576: true; the input reads as it did. -/
def fnExactSameTypeUptoRow : OpenClaim := { program := "ytjlefdalobgdfaa", sum := "62960665045f79af82f47ebd3e098f9d5b10325af676aa4d5ab138fb12fc7a40", func := "loop.example/g00017/laws.FnExactSameType", spec := "fnExactSameType", recurses := true, loops := true, plainKeys := false, apart := false, narrowed := true }
def FnExactSameTypeUptoSaid : Prop := fnExactSameTypeUptoRow.holds Try.pinned (OpenSpec.upto fnExactSameTypeSpec)

/-- 'laws.FnExactFreeIds', WHERE WHAT IT READS IS OF BULK AT MOST 1048576: true; the input reads as it did. -/
def fnExactFreeIdsUptoRow : OpenClaim := { program := "ytjlefdalobgdfaa", sum := "62960665045f79af82f47ebd3e098f9d5b10325af676aa4d5ab138fb12fc7a40", func := "loop.example/g00017/laws.FnExactFreeIds", spec := "fnExactFreeIds", unfollowed := true, recurses := true, loops := true, plainKeys := false, apart := false, narrowed := true }
def FnExactFreeIdsUptoSaid : Prop := fnExactFreeIdsUptoRow.holds Try.pinned (OpenSpec.upto fnExactFreeIdsSpec)

/-- 'laws.FnExactApply', WHERE WHAT IT READS IS OF BULK AT MOST 1048576: true; the input reads as it did. -/
def fnExactApplyUptoRow : OpenClaim := { program := "ytjlefdalobgdfaa", sum := "62960665045f79af82f47ebd3e098f9d5b10325af676aa4d5ab138fb12fc7a40", func := "loop.example/g00017/laws.FnExactApply", spec := "fnExactApply", unfollowed := true, recurses := true, loops := true, plainKeys := false, apart := false, narrowed := true }
def FnExactApplyUptoSaid : Prop := fnExactApplyUptoRow.holds Try.pinned (OpenSpec.upto fnExactApplySpec)

/-- 'laws.FnExactClose', WHERE WHAT IT READS IS OF BULK AT MOST 1048576: true; the input reads as it did. -/
def fnExactCloseUptoRow : OpenClaim := { program := "ytjlefdalobgdfaa", sum := "62960665045f79af82f47ebd3e098f9d5b10325af676aa4d5ab138fb12fc7a40", func := "loop.example/g00017/laws.FnExactClose", spec := "fnExactClose", unfollowed := true, recurses := true, loops := true, plainKeys := false, apart := false, narrowed := true }
def FnExactCloseUptoSaid : Prop := fnExactCloseUptoRow.holds Try.pinned (OpenSpec.upto fnExactCloseSpec)

/-- 'laws.FnExactOpen', WHERE WHAT IT READS IS OF BULK AT MOST 1048576: true; the input reads as it did. -/
def fnExactOpenUptoRow : OpenClaim := { program := "ytjlefdalobgdfaa", sum := "62960665045f79af82f47ebd3e098f9d5b10325af676aa4d5ab138fb12fc7a40", func := "loop.example/g00017/laws.FnExactOpen", spec := "fnExactOpen", unfollowed := true, recurses := true, loops := true, plainKeys := false, apart := false, narrowed := true }
def FnExactOpenUptoSaid : Prop := fnExactOpenUptoRow.holds Try.pinned (OpenSpec.upto fnExactOpenSpec)

end Rows
end Go.Proofs.Ytjlefdalobgdfaa
