/-
  No cell of these rows narrows 'for every input' (looked for: loops, veiled, ifaces, maps, wideKeys, modest, calm, conditions, laid).
  DERIVED. THE GIVEN ROWS OF THIS SEAT. 8 by the template 'for every input the law returns true; each argument reads behind the call as it read before'; 0 by the template 'total and deterministic' (their statements: YtinchhahcheadaaTotals.lean).
  GIVEN WITH THE SEED: the statements are not yours to turn. If you find one false, say at which input.
  Laid BY PROGRAM, IN A SANDBOX (cutbox-rows.mjs): the forced cells as the released guide's own fill.sh prints them over the translation d0f5f76086e90ada… (all of the seat's roots in one cut). By AI agents, Wed Nov 11 2026. No macro, syntax, notation, axiom, sorry.
-/
import Derived.Test.YtinchhahcheadaaChecked
import GoSem.Claim
import GoSem.ClaimJoined
import GoSem.ClaimMapViews
import Derived.JoinedTies
import Derived.KernelRfl
namespace Go.Proofs.Ytinchhahcheadaa
/- THE CELL 'sum', in the pinned program and in every row, IS THE sha256 OF THE DUMP (.gsa) THAT YtinchhahcheadaaProg.lean LOADS. Nothing in Lean hashes anything: it is a label: what it is worth is what the hold of that sum in a sandbox is worth. -/
noncomputable def Try.pinned : Pinned := { name := "ytinchhahcheadaa", sum := "d0f5f76086e90ada77f1442a46b5e493e11ff7a35a85f46ff9638b6de1ca0160", checked := Try.checked }
namespace Rows
def none {H : Type} : Left H := { results := [], args := [] }

/-- 'laws.FnExactIsValidQuery': WHATEVER THE INPUT: true; the input reads as it did. -/
def fnExactIsValidQuerySpec : ChangeSpec := { name := "fnExactIsValidQuery", fn := fun _ => fun
  | [d] => { results := [.lit (.bool true)], args := [d] }
  | _ => none }
def fnExactIsValidQueryRow : OpenClaim := { program := "ytinchhahcheadaa", sum := "d0f5f76086e90ada77f1442a46b5e493e11ff7a35a85f46ff9638b6de1ca0160", func := "loop.example/g01921/laws.FnExactIsValidQuery", spec := "fnExactIsValidQuery", apart := false }
def FnExactIsValidQuerySaid : Prop := fnExactIsValidQueryRow.holds Try.pinned (OpenSpec.ofChange fnExactIsValidQuerySpec)

/-- ITS FALSE NEIGHBOUR: 'it returns false'. Refute it at one input. -/
def fnExactIsValidQueryWrong : ChangeSpec := { name := "fnExactIsValidQuery", fn := fun _ => fun
  | [d] => { results := [.lit (.bool false)], args := [d] }
  | _ => none }
def FnExactIsValidQueryWrongFalsely : Prop := fnExactIsValidQueryRow.holds Try.pinned (OpenSpec.ofChange fnExactIsValidQueryWrong)

/-- 'laws.FnExactIsQueryFor': WHATEVER THE INPUT: true; the input reads as it did. -/
def fnExactIsQueryForSpec : ChangeSpec := { name := "fnExactIsQueryFor", fn := fun _ => fun
  | [d1, d2] => { results := [.lit (.bool true)], args := [d1, d2] }
  | _ => none }
def fnExactIsQueryForRow : OpenClaim := { program := "ytinchhahcheadaa", sum := "d0f5f76086e90ada77f1442a46b5e493e11ff7a35a85f46ff9638b6de1ca0160", func := "loop.example/g01921/laws.FnExactIsQueryFor", spec := "fnExactIsQueryFor", unfollowed := true, recurses := true, apart := false }
def FnExactIsQueryForSaid : Prop := fnExactIsQueryForRow.holds Try.pinned (OpenSpec.ofChange fnExactIsQueryForSpec)

/-- ITS FALSE NEIGHBOUR: 'it returns false'. Refute it at one input. -/
def fnExactIsQueryForWrong : ChangeSpec := { name := "fnExactIsQueryFor", fn := fun _ => fun
  | [d1, d2] => { results := [.lit (.bool false)], args := [d1, d2] }
  | _ => none }
def FnExactIsQueryForWrongFalsely : Prop := fnExactIsQueryForRow.holds Try.pinned (OpenSpec.ofChange fnExactIsQueryForWrong)

/-- 'laws.FnExactVariableName': WHATEVER THE INPUT: true; the input reads as it did. -/
def fnExactVariableNameSpec : ChangeSpec := { name := "fnExactVariableName", fn := fun _ => fun
  | [d] => { results := [.lit (.bool true)], args := [d] }
  | _ => none }
def fnExactVariableNameRow : OpenClaim := { program := "ytinchhahcheadaa", sum := "d0f5f76086e90ada77f1442a46b5e493e11ff7a35a85f46ff9638b6de1ca0160", func := "loop.example/g01921/laws.FnExactVariableName", spec := "fnExactVariableName", apart := false }
def FnExactVariableNameSaid : Prop := fnExactVariableNameRow.holds Try.pinned (OpenSpec.ofChange fnExactVariableNameSpec)

/-- ITS FALSE NEIGHBOUR: 'it returns false'. Refute it at one input. -/
def fnExactVariableNameWrong : ChangeSpec := { name := "fnExactVariableName", fn := fun _ => fun
  | [d] => { results := [.lit (.bool false)], args := [d] }
  | _ => none }
def FnExactVariableNameWrongFalsely : Prop := fnExactVariableNameRow.holds Try.pinned (OpenSpec.ofChange fnExactVariableNameWrong)

/-- 'laws.FnExactMaskVariables': WHATEVER THE INPUT: true; the input reads as it did. -/
def fnExactMaskVariablesSpec : ChangeSpec := { name := "fnExactMaskVariables", fn := fun _ => fun
  | [d1, d2] => { results := [.lit (.bool true)], args := [d1, d2] }
  | _ => none }
def fnExactMaskVariablesRow : OpenClaim := { program := "ytinchhahcheadaa", sum := "d0f5f76086e90ada77f1442a46b5e493e11ff7a35a85f46ff9638b6de1ca0160", func := "loop.example/g01921/laws.FnExactMaskVariables", spec := "fnExactMaskVariables", apart := false }
def FnExactMaskVariablesSaid : Prop := fnExactMaskVariablesRow.holds Try.pinned (OpenSpec.ofChange fnExactMaskVariablesSpec)

/-- ITS FALSE NEIGHBOUR: 'it returns false'. Refute it at one input. -/
def fnExactMaskVariablesWrong : ChangeSpec := { name := "fnExactMaskVariables", fn := fun _ => fun
  | [d1, d2] => { results := [.lit (.bool false)], args := [d1, d2] }
  | _ => none }
def FnExactMaskVariablesWrongFalsely : Prop := fnExactMaskVariablesRow.holds Try.pinned (OpenSpec.ofChange fnExactMaskVariablesWrong)

/-- 'laws.FnExactSharedVariables': WHATEVER THE INPUT: true; the input reads as it did. -/
def fnExactSharedVariablesSpec : ChangeSpec := { name := "fnExactSharedVariables", fn := fun _ => fun
  | [d1, d2, d3] => { results := [.lit (.bool true)], args := [d1, d2, d3] }
  | _ => none }
def fnExactSharedVariablesRow : OpenClaim := { program := "ytinchhahcheadaa", sum := "d0f5f76086e90ada77f1442a46b5e493e11ff7a35a85f46ff9638b6de1ca0160", func := "loop.example/g01921/laws.FnExactSharedVariables", spec := "fnExactSharedVariables", apart := false }
def FnExactSharedVariablesSaid : Prop := fnExactSharedVariablesRow.holds Try.pinned (OpenSpec.ofChange fnExactSharedVariablesSpec)

/-- ITS FALSE NEIGHBOUR: 'it returns false'. Refute it at one input. -/
def fnExactSharedVariablesWrong : ChangeSpec := { name := "fnExactSharedVariables", fn := fun _ => fun
  | [d1, d2, d3] => { results := [.lit (.bool false)], args := [d1, d2, d3] }
  | _ => none }
def FnExactSharedVariablesWrongFalsely : Prop := fnExactSharedVariablesRow.holds Try.pinned (OpenSpec.ofChange fnExactSharedVariablesWrong)

/-- 'laws.FnExactAtomColumns': WHATEVER THE INPUT: true; the input reads as it did. -/
def fnExactAtomColumnsSpec : ChangeSpec := { name := "fnExactAtomColumns", fn := fun _ => fun
  | [d1, d2] => { results := [.lit (.bool true)], args := [d1, d2] }
  | _ => none }
def fnExactAtomColumnsRow : OpenClaim := { program := "ytinchhahcheadaa", sum := "d0f5f76086e90ada77f1442a46b5e493e11ff7a35a85f46ff9638b6de1ca0160", func := "loop.example/g01921/laws.FnExactAtomColumns", spec := "fnExactAtomColumns", apart := false }
def FnExactAtomColumnsSaid : Prop := fnExactAtomColumnsRow.holds Try.pinned (OpenSpec.ofChange fnExactAtomColumnsSpec)

/-- ITS FALSE NEIGHBOUR: 'it returns false'. Refute it at one input. -/
def fnExactAtomColumnsWrong : ChangeSpec := { name := "fnExactAtomColumns", fn := fun _ => fun
  | [d1, d2] => { results := [.lit (.bool false)], args := [d1, d2] }
  | _ => none }
def FnExactAtomColumnsWrongFalsely : Prop := fnExactAtomColumnsRow.holds Try.pinned (OpenSpec.ofChange fnExactAtomColumnsWrong)

/-- 'laws.FnExactEqualQueries': WHATEVER THE INPUT: true; the input reads as it did. -/
def fnExactEqualQueriesSpec : ChangeSpec := { name := "fnExactEqualQueries", fn := fun _ => fun
  | [d1, d2] => { results := [.lit (.bool true)], args := [d1, d2] }
  | _ => none }
def fnExactEqualQueriesRow : OpenClaim := { program := "ytinchhahcheadaa", sum := "d0f5f76086e90ada77f1442a46b5e493e11ff7a35a85f46ff9638b6de1ca0160", func := "loop.example/g01921/laws.FnExactEqualQueries", spec := "fnExactEqualQueries", unfollowed := true, recurses := true, apart := false }
def FnExactEqualQueriesSaid : Prop := fnExactEqualQueriesRow.holds Try.pinned (OpenSpec.ofChange fnExactEqualQueriesSpec)

/-- ITS FALSE NEIGHBOUR: 'it returns false'. Refute it at one input. -/
def fnExactEqualQueriesWrong : ChangeSpec := { name := "fnExactEqualQueries", fn := fun _ => fun
  | [d1, d2] => { results := [.lit (.bool false)], args := [d1, d2] }
  | _ => none }
def FnExactEqualQueriesWrongFalsely : Prop := fnExactEqualQueriesRow.holds Try.pinned (OpenSpec.ofChange fnExactEqualQueriesWrong)

/-- 'laws.FnExactFormatQuery': WHATEVER THE INPUT: true; the input reads as it did. -/
def fnExactFormatQuerySpec : ChangeSpec := { name := "fnExactFormatQuery", fn := fun _ => fun
  | [d] => { results := [.lit (.bool true)], args := [d] }
  | _ => none }
def fnExactFormatQueryRow : OpenClaim := { program := "ytinchhahcheadaa", sum := "d0f5f76086e90ada77f1442a46b5e493e11ff7a35a85f46ff9638b6de1ca0160", func := "loop.example/g01921/laws.FnExactFormatQuery", spec := "fnExactFormatQuery", inPlace := ["internal/abi.NoEscape", "internal/bytealg.MakeNoZero"], unfollowed := true, recurses := true, apart := false }
def FnExactFormatQuerySaid : Prop := fnExactFormatQueryRow.holds Try.pinned (OpenSpec.ofChange fnExactFormatQuerySpec)

/-- ITS FALSE NEIGHBOUR: 'it returns false'. Refute it at one input. -/
def fnExactFormatQueryWrong : ChangeSpec := { name := "fnExactFormatQuery", fn := fun _ => fun
  | [d] => { results := [.lit (.bool false)], args := [d] }
  | _ => none }
def FnExactFormatQueryWrongFalsely : Prop := fnExactFormatQueryRow.holds Try.pinned (OpenSpec.ofChange fnExactFormatQueryWrong)

/- THE SECOND FORM. 'bulk': how many values and letters a reading holds, each counted each time it is reached (what is shared counts as often as it is met; a slice's spare places count too). A statement '..UptoSaid' is the law's where the arguments, and the package variables that the reading takes, are together of bulk at most 1048576: NARROWER than '..Said'. Prove '..Said' where nothing that the law and all that it calls make is longer than what came in: it says more and counts as full. Else prove '..UptoSaid'. A law counts once. -/
mutual
def uptoBulk {H : Type} : DataW H → Nat
  | .lit (.string bytes) => bytes.length + 1
  | .lit _ => 1
  | .nil => 1
  | .ptr d => uptoBulk d + 1
  | .slice elems spare => uptoBulkAll elems + uptoBulkAll spare + 1
  | .agg parts => uptoBulkAll parts + 1
  | .iface _ d => uptoBulk d + 1
  | .map entries => uptoBulkEntries entries + 1
  | .held _ => 1
def uptoBulkAll {H : Type} : List (DataW H) → Nat
  | [] => 0
  | d :: r => uptoBulk d + uptoBulkAll r
def uptoBulkEntries {H : Type} : List (Lit × DataW H) → Nat
  | [] => 0
  | x :: r => uptoBulkEntry x + uptoBulkEntries r
def uptoBulkEntry {H : Type} : Lit × DataW H → Nat
  | (.string bytes, d) => bytes.length + uptoBulk d + 1
  | (_, d) => uptoBulk d + 1
 end
def uptoSmall : (H : Type) → List (DataW H) → Bool := fun _ ds => decide (uptoBulkAll ds ≤ 1048576)
def OpenSpec.upto (s : _root_.Go.ChangeSpec) : _root_.Go.OpenSpec := { _root_.Go.OpenSpec.ofChange s with cond := some uptoSmall }

/-- 'laws.FnExactIsValidQuery', WHERE WHAT IT READS IS OF BULK AT MOST 1048576: true; the input reads as it did. -/
def fnExactIsValidQueryUptoRow : OpenClaim := { program := "ytinchhahcheadaa", sum := "d0f5f76086e90ada77f1442a46b5e493e11ff7a35a85f46ff9638b6de1ca0160", func := "loop.example/g01921/laws.FnExactIsValidQuery", spec := "fnExactIsValidQuery", apart := false, narrowed := true }
def FnExactIsValidQueryUptoSaid : Prop := fnExactIsValidQueryUptoRow.holds Try.pinned (OpenSpec.upto fnExactIsValidQuerySpec)

/-- 'laws.FnExactIsQueryFor', WHERE WHAT IT READS IS OF BULK AT MOST 1048576: true; the input reads as it did. -/
def fnExactIsQueryForUptoRow : OpenClaim := { program := "ytinchhahcheadaa", sum := "d0f5f76086e90ada77f1442a46b5e493e11ff7a35a85f46ff9638b6de1ca0160", func := "loop.example/g01921/laws.FnExactIsQueryFor", spec := "fnExactIsQueryFor", unfollowed := true, recurses := true, apart := false, narrowed := true }
def FnExactIsQueryForUptoSaid : Prop := fnExactIsQueryForUptoRow.holds Try.pinned (OpenSpec.upto fnExactIsQueryForSpec)

/-- 'laws.FnExactVariableName', WHERE WHAT IT READS IS OF BULK AT MOST 1048576: true; the input reads as it did. -/
def fnExactVariableNameUptoRow : OpenClaim := { program := "ytinchhahcheadaa", sum := "d0f5f76086e90ada77f1442a46b5e493e11ff7a35a85f46ff9638b6de1ca0160", func := "loop.example/g01921/laws.FnExactVariableName", spec := "fnExactVariableName", apart := false, narrowed := true }
def FnExactVariableNameUptoSaid : Prop := fnExactVariableNameUptoRow.holds Try.pinned (OpenSpec.upto fnExactVariableNameSpec)

/-- 'laws.FnExactMaskVariables', WHERE WHAT IT READS IS OF BULK AT MOST 1048576: true; the input reads as it did. -/
def fnExactMaskVariablesUptoRow : OpenClaim := { program := "ytinchhahcheadaa", sum := "d0f5f76086e90ada77f1442a46b5e493e11ff7a35a85f46ff9638b6de1ca0160", func := "loop.example/g01921/laws.FnExactMaskVariables", spec := "fnExactMaskVariables", apart := false, narrowed := true }
def FnExactMaskVariablesUptoSaid : Prop := fnExactMaskVariablesUptoRow.holds Try.pinned (OpenSpec.upto fnExactMaskVariablesSpec)

/-- 'laws.FnExactSharedVariables', WHERE WHAT IT READS IS OF BULK AT MOST 1048576: true; the input reads as it did. -/
def fnExactSharedVariablesUptoRow : OpenClaim := { program := "ytinchhahcheadaa", sum := "d0f5f76086e90ada77f1442a46b5e493e11ff7a35a85f46ff9638b6de1ca0160", func := "loop.example/g01921/laws.FnExactSharedVariables", spec := "fnExactSharedVariables", apart := false, narrowed := true }
def FnExactSharedVariablesUptoSaid : Prop := fnExactSharedVariablesUptoRow.holds Try.pinned (OpenSpec.upto fnExactSharedVariablesSpec)

/-- 'laws.FnExactAtomColumns', WHERE WHAT IT READS IS OF BULK AT MOST 1048576: true; the input reads as it did. -/
def fnExactAtomColumnsUptoRow : OpenClaim := { program := "ytinchhahcheadaa", sum := "d0f5f76086e90ada77f1442a46b5e493e11ff7a35a85f46ff9638b6de1ca0160", func := "loop.example/g01921/laws.FnExactAtomColumns", spec := "fnExactAtomColumns", apart := false, narrowed := true }
def FnExactAtomColumnsUptoSaid : Prop := fnExactAtomColumnsUptoRow.holds Try.pinned (OpenSpec.upto fnExactAtomColumnsSpec)

/-- 'laws.FnExactEqualQueries', WHERE WHAT IT READS IS OF BULK AT MOST 1048576: true; the input reads as it did. -/
def fnExactEqualQueriesUptoRow : OpenClaim := { program := "ytinchhahcheadaa", sum := "d0f5f76086e90ada77f1442a46b5e493e11ff7a35a85f46ff9638b6de1ca0160", func := "loop.example/g01921/laws.FnExactEqualQueries", spec := "fnExactEqualQueries", unfollowed := true, recurses := true, apart := false, narrowed := true }
def FnExactEqualQueriesUptoSaid : Prop := fnExactEqualQueriesUptoRow.holds Try.pinned (OpenSpec.upto fnExactEqualQueriesSpec)

/-- 'laws.FnExactFormatQuery', WHERE WHAT IT READS IS OF BULK AT MOST 1048576: true; the input reads as it did. -/
def fnExactFormatQueryUptoRow : OpenClaim := { program := "ytinchhahcheadaa", sum := "d0f5f76086e90ada77f1442a46b5e493e11ff7a35a85f46ff9638b6de1ca0160", func := "loop.example/g01921/laws.FnExactFormatQuery", spec := "fnExactFormatQuery", inPlace := ["internal/abi.NoEscape", "internal/bytealg.MakeNoZero"], unfollowed := true, recurses := true, apart := false, narrowed := true }
def FnExactFormatQueryUptoSaid : Prop := fnExactFormatQueryUptoRow.holds Try.pinned (OpenSpec.upto fnExactFormatQuerySpec)

end Rows
end Go.Proofs.Ytinchhahcheadaa
