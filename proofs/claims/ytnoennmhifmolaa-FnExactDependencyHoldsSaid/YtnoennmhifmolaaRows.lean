/-
  No cell of these rows narrows 'for every input' (looked for: loops, veiled, ifaces, maps, wideKeys, modest, calm, conditions, laid).
  DERIVED. THE GIVEN ROWS OF THIS SEAT. 9 by the template 'for every input the law returns true; each argument reads behind the call as it read before'; 0 by the template 'total and deterministic' (their statements: YtnoennmhifmolaaTotals.lean).
  GIVEN WITH THE SEED: the statements are not yours to turn. If you find one false, say at which input.
  Laid BY PROGRAM, IN A SANDBOX (cutbox-rows.mjs): the forced cells as the released guide's own fill.sh prints them over the translation d083fdecdbb72771… (all of the seat's roots in one cut). By AI agents, Wed Nov 11 2026. No macro, syntax, notation, axiom, sorry.
-/
import Derived.Test.YtnoennmhifmolaaChecked
import GoSem.Claim
import GoSem.ClaimJoined
import GoSem.ClaimMapViews
import Derived.JoinedTies
import Derived.KernelRfl
namespace Go.Proofs.Ytnoennmhifmolaa
/- THE CELL 'sum', in the pinned program and in every row, IS THE sha256 OF THE DUMP (.gsa) THAT YtnoennmhifmolaaProg.lean LOADS. Nothing in Lean hashes anything: it is a label: what it is worth is what the hold of that sum in a sandbox is worth. -/
noncomputable def Try.pinned : Pinned := { name := "ytnoennmhifmolaa", sum := "d083fdecdbb72771b3b74e8c5ad4ea7075e5507f359fdbf213e86414f36faf25", checked := Try.checked }
namespace Rows
def none {H : Type} : Left H := { results := [], args := [] }

/-- 'laws.FnExactIsValidDependency': WHATEVER THE INPUT: true; the input reads as it did. -/
def fnExactIsValidDependencySpec : ChangeSpec := { name := "fnExactIsValidDependency", fn := fun _ => fun
  | [d1, d2] => { results := [.lit (.bool true)], args := [d1, d2] }
  | _ => none }
def fnExactIsValidDependencyRow : OpenClaim := { program := "ytnoennmhifmolaa", sum := "d083fdecdbb72771b3b74e8c5ad4ea7075e5507f359fdbf213e86414f36faf25", func := "loop.example/g01921/laws.FnExactIsValidDependency", spec := "fnExactIsValidDependency", unfollowed := true, recurses := true, apart := false }
def FnExactIsValidDependencySaid : Prop := fnExactIsValidDependencyRow.holds Try.pinned (OpenSpec.ofChange fnExactIsValidDependencySpec)

/-- ITS FALSE NEIGHBOUR: 'it returns false'. Refute it at one input. -/
def fnExactIsValidDependencyWrong : ChangeSpec := { name := "fnExactIsValidDependency", fn := fun _ => fun
  | [d1, d2] => { results := [.lit (.bool false)], args := [d1, d2] }
  | _ => none }
def FnExactIsValidDependencyWrongFalsely : Prop := fnExactIsValidDependencyRow.holds Try.pinned (OpenSpec.ofChange fnExactIsValidDependencyWrong)

/-- 'laws.FnExactDependencyViolation': WHATEVER THE INPUT: true; the input reads as it did. -/
def fnExactDependencyViolationSpec : ChangeSpec := { name := "fnExactDependencyViolation", fn := fun _ => fun
  | [d1, d2] => { results := [.lit (.bool true)], args := [d1, d2] }
  | _ => none }
def fnExactDependencyViolationRow : OpenClaim := { program := "ytnoennmhifmolaa", sum := "d083fdecdbb72771b3b74e8c5ad4ea7075e5507f359fdbf213e86414f36faf25", func := "loop.example/g01921/laws.FnExactDependencyViolation", spec := "fnExactDependencyViolation", unfollowed := true, recurses := true, apart := false }
def FnExactDependencyViolationSaid : Prop := fnExactDependencyViolationRow.holds Try.pinned (OpenSpec.ofChange fnExactDependencyViolationSpec)

/-- ITS FALSE NEIGHBOUR: 'it returns false'. Refute it at one input. -/
def fnExactDependencyViolationWrong : ChangeSpec := { name := "fnExactDependencyViolation", fn := fun _ => fun
  | [d1, d2] => { results := [.lit (.bool false)], args := [d1, d2] }
  | _ => none }
def FnExactDependencyViolationWrongFalsely : Prop := fnExactDependencyViolationRow.holds Try.pinned (OpenSpec.ofChange fnExactDependencyViolationWrong)

/-- 'laws.FnExactDependencyHolds': WHATEVER THE INPUT: true; the input reads as it did. -/
def fnExactDependencyHoldsSpec : ChangeSpec := { name := "fnExactDependencyHolds", fn := fun _ => fun
  | [d1, d2] => { results := [.lit (.bool true)], args := [d1, d2] }
  | _ => none }
def fnExactDependencyHoldsRow : OpenClaim := { program := "ytnoennmhifmolaa", sum := "d083fdecdbb72771b3b74e8c5ad4ea7075e5507f359fdbf213e86414f36faf25", func := "loop.example/g01921/laws.FnExactDependencyHolds", spec := "fnExactDependencyHolds", unfollowed := true, recurses := true, apart := false }
def FnExactDependencyHoldsSaid : Prop := fnExactDependencyHoldsRow.holds Try.pinned (OpenSpec.ofChange fnExactDependencyHoldsSpec)

/-- ITS FALSE NEIGHBOUR: 'it returns false'. Refute it at one input. -/
def fnExactDependencyHoldsWrong : ChangeSpec := { name := "fnExactDependencyHolds", fn := fun _ => fun
  | [d1, d2] => { results := [.lit (.bool false)], args := [d1, d2] }
  | _ => none }
def FnExactDependencyHoldsWrongFalsely : Prop := fnExactDependencyHoldsRow.holds Try.pinned (OpenSpec.ofChange fnExactDependencyHoldsWrong)

/-- 'laws.FnExactColumnClosure': WHATEVER THE INPUT: true; the input reads as it did. -/
def fnExactColumnClosureSpec : ChangeSpec := { name := "fnExactColumnClosure", fn := fun _ => fun
  | [d1, d2, d3] => { results := [.lit (.bool true)], args := [d1, d2, d3] }
  | _ => none }
def fnExactColumnClosureRow : OpenClaim := { program := "ytnoennmhifmolaa", sum := "d083fdecdbb72771b3b74e8c5ad4ea7075e5507f359fdbf213e86414f36faf25", func := "loop.example/g01921/laws.FnExactColumnClosure", spec := "fnExactColumnClosure", recurses := true, apart := false }
def FnExactColumnClosureSaid : Prop := fnExactColumnClosureRow.holds Try.pinned (OpenSpec.ofChange fnExactColumnClosureSpec)

/-- ITS FALSE NEIGHBOUR: 'it returns false'. Refute it at one input. -/
def fnExactColumnClosureWrong : ChangeSpec := { name := "fnExactColumnClosure", fn := fun _ => fun
  | [d1, d2, d3] => { results := [.lit (.bool false)], args := [d1, d2, d3] }
  | _ => none }
def FnExactColumnClosureWrongFalsely : Prop := fnExactColumnClosureRow.holds Try.pinned (OpenSpec.ofChange fnExactColumnClosureWrong)

/-- 'laws.FnExactIsKey': WHATEVER THE INPUT: true; the input reads as it did. -/
def fnExactIsKeySpec : ChangeSpec := { name := "fnExactIsKey", fn := fun _ => fun
  | [d1, d2, d3] => { results := [.lit (.bool true)], args := [d1, d2, d3] }
  | _ => none }
def fnExactIsKeyRow : OpenClaim := { program := "ytnoennmhifmolaa", sum := "d083fdecdbb72771b3b74e8c5ad4ea7075e5507f359fdbf213e86414f36faf25", func := "loop.example/g01921/laws.FnExactIsKey", spec := "fnExactIsKey", unfollowed := true, recurses := true, apart := false }
def FnExactIsKeySaid : Prop := fnExactIsKeyRow.holds Try.pinned (OpenSpec.ofChange fnExactIsKeySpec)

/-- ITS FALSE NEIGHBOUR: 'it returns false'. Refute it at one input. -/
def fnExactIsKeyWrong : ChangeSpec := { name := "fnExactIsKey", fn := fun _ => fun
  | [d1, d2, d3] => { results := [.lit (.bool false)], args := [d1, d2, d3] }
  | _ => none }
def FnExactIsKeyWrongFalsely : Prop := fnExactIsKeyRow.holds Try.pinned (OpenSpec.ofChange fnExactIsKeyWrong)

/-- 'laws.FnExactMinimalKeys': WHATEVER THE INPUT: true; the input reads as it did. -/
def fnExactMinimalKeysSpec : ChangeSpec := { name := "fnExactMinimalKeys", fn := fun _ => fun
  | [d1, d2] => { results := [.lit (.bool true)], args := [d1, d2] }
  | _ => none }
def fnExactMinimalKeysRow : OpenClaim := { program := "ytnoennmhifmolaa", sum := "d083fdecdbb72771b3b74e8c5ad4ea7075e5507f359fdbf213e86414f36faf25", func := "loop.example/g01921/laws.FnExactMinimalKeys", spec := "fnExactMinimalKeys", unfollowed := true, recurses := true, apart := false }
def FnExactMinimalKeysSaid : Prop := fnExactMinimalKeysRow.holds Try.pinned (OpenSpec.ofChange fnExactMinimalKeysSpec)

/-- ITS FALSE NEIGHBOUR: 'it returns false'. Refute it at one input. -/
def fnExactMinimalKeysWrong : ChangeSpec := { name := "fnExactMinimalKeys", fn := fun _ => fun
  | [d1, d2] => { results := [.lit (.bool false)], args := [d1, d2] }
  | _ => none }
def FnExactMinimalKeysWrongFalsely : Prop := fnExactMinimalKeysRow.holds Try.pinned (OpenSpec.ofChange fnExactMinimalKeysWrong)

/-- 'laws.FnExactIsValidInclusion': WHATEVER THE INPUT: true; the input reads as it did. -/
def fnExactIsValidInclusionSpec : ChangeSpec := { name := "fnExactIsValidInclusion", fn := fun _ => fun
  | [d1, d2] => { results := [.lit (.bool true)], args := [d1, d2] }
  | _ => none }
def fnExactIsValidInclusionRow : OpenClaim := { program := "ytnoennmhifmolaa", sum := "d083fdecdbb72771b3b74e8c5ad4ea7075e5507f359fdbf213e86414f36faf25", func := "loop.example/g01921/laws.FnExactIsValidInclusion", spec := "fnExactIsValidInclusion", unfollowed := true, recurses := true, apart := false }
def FnExactIsValidInclusionSaid : Prop := fnExactIsValidInclusionRow.holds Try.pinned (OpenSpec.ofChange fnExactIsValidInclusionSpec)

/-- ITS FALSE NEIGHBOUR: 'it returns false'. Refute it at one input. -/
def fnExactIsValidInclusionWrong : ChangeSpec := { name := "fnExactIsValidInclusion", fn := fun _ => fun
  | [d1, d2] => { results := [.lit (.bool false)], args := [d1, d2] }
  | _ => none }
def FnExactIsValidInclusionWrongFalsely : Prop := fnExactIsValidInclusionRow.holds Try.pinned (OpenSpec.ofChange fnExactIsValidInclusionWrong)

/-- 'laws.FnExactInclusionHolds': WHATEVER THE INPUT: true; the input reads as it did. -/
def fnExactInclusionHoldsSpec : ChangeSpec := { name := "fnExactInclusionHolds", fn := fun _ => fun
  | [d1, d2] => { results := [.lit (.bool true)], args := [d1, d2] }
  | _ => none }
def fnExactInclusionHoldsRow : OpenClaim := { program := "ytnoennmhifmolaa", sum := "d083fdecdbb72771b3b74e8c5ad4ea7075e5507f359fdbf213e86414f36faf25", func := "loop.example/g01921/laws.FnExactInclusionHolds", spec := "fnExactInclusionHolds", unfollowed := true, recurses := true, apart := false }
def FnExactInclusionHoldsSaid : Prop := fnExactInclusionHoldsRow.holds Try.pinned (OpenSpec.ofChange fnExactInclusionHoldsSpec)

/-- ITS FALSE NEIGHBOUR: 'it returns false'. Refute it at one input. -/
def fnExactInclusionHoldsWrong : ChangeSpec := { name := "fnExactInclusionHolds", fn := fun _ => fun
  | [d1, d2] => { results := [.lit (.bool false)], args := [d1, d2] }
  | _ => none }
def FnExactInclusionHoldsWrongFalsely : Prop := fnExactInclusionHoldsRow.holds Try.pinned (OpenSpec.ofChange fnExactInclusionHoldsWrong)

/-- 'laws.FnExactMissingValues': WHATEVER THE INPUT: true; the input reads as it did. -/
def fnExactMissingValuesSpec : ChangeSpec := { name := "fnExactMissingValues", fn := fun _ => fun
  | [d1, d2] => { results := [.lit (.bool true)], args := [d1, d2] }
  | _ => none }
def fnExactMissingValuesRow : OpenClaim := { program := "ytnoennmhifmolaa", sum := "d083fdecdbb72771b3b74e8c5ad4ea7075e5507f359fdbf213e86414f36faf25", func := "loop.example/g01921/laws.FnExactMissingValues", spec := "fnExactMissingValues", unfollowed := true, recurses := true, apart := false }
def FnExactMissingValuesSaid : Prop := fnExactMissingValuesRow.holds Try.pinned (OpenSpec.ofChange fnExactMissingValuesSpec)

/-- ITS FALSE NEIGHBOUR: 'it returns false'. Refute it at one input. -/
def fnExactMissingValuesWrong : ChangeSpec := { name := "fnExactMissingValues", fn := fun _ => fun
  | [d1, d2] => { results := [.lit (.bool false)], args := [d1, d2] }
  | _ => none }
def FnExactMissingValuesWrongFalsely : Prop := fnExactMissingValuesRow.holds Try.pinned (OpenSpec.ofChange fnExactMissingValuesWrong)

/- THE SECOND FORM. 'bulk': how many values and letters a reading holds, each counted each time it is reached (what is shared counts as often as it is met; a slice's spare places count too). A statement '..UptoSaid' is the law's where the arguments, and the package variables that the reading takes, are together of bulk at most 1048576: NARROWER than '..Said'. Prove '..Said' where nothing that the law and all that it calls make is longer than what came in: it says more and counts as full. Else prove '..UptoSaid'. A law counts once. -/
mutual
def uptoBulk {H : Type} : DataW H → Nat
  | .lit (.string bytes) => bytes.length + 1
  | .lit _ => 1
  | .nil => 1
  | .ptr d => uptoBulk d + 1
  | .slice elems spare => uptoBulkAll elems + uptoBulkAll spare + 1
  | .agg parts => uptoBulkAll parts + 1
  | .iface _ d => uptoBulk d + 1
  | .map entries => uptoBulkEntries entries + 1
  | .held _ => 1
def uptoBulkAll {H : Type} : List (DataW H) → Nat
  | [] => 0
  | d :: r => uptoBulk d + uptoBulkAll r
def uptoBulkEntries {H : Type} : List (Lit × DataW H) → Nat
  | [] => 0
  | x :: r => uptoBulkEntry x + uptoBulkEntries r
def uptoBulkEntry {H : Type} : Lit × DataW H → Nat
  | (.string bytes, d) => bytes.length + uptoBulk d + 1
  | (_, d) => uptoBulk d + 1
 end
def uptoSmall : (H : Type) → List (DataW H) → Bool := fun _ ds => decide (uptoBulkAll ds ≤ 1048576)
def OpenSpec.upto (s : _root_.Go.ChangeSpec) : _root_.Go.OpenSpec := { _root_.Go.OpenSpec.ofChange s with cond := some uptoSmall }

/-- 'laws.FnExactIsValidDependency', WHERE WHAT IT READS IS OF BULK AT MOST 1048576: true; the input reads as it did. -/
def fnExactIsValidDependencyUptoRow : OpenClaim := { program := "ytnoennmhifmolaa", sum := "d083fdecdbb72771b3b74e8c5ad4ea7075e5507f359fdbf213e86414f36faf25", func := "loop.example/g01921/laws.FnExactIsValidDependency", spec := "fnExactIsValidDependency", unfollowed := true, recurses := true, apart := false, narrowed := true }
def FnExactIsValidDependencyUptoSaid : Prop := fnExactIsValidDependencyUptoRow.holds Try.pinned (OpenSpec.upto fnExactIsValidDependencySpec)

/-- 'laws.FnExactDependencyViolation', WHERE WHAT IT READS IS OF BULK AT MOST 1048576: true; the input reads as it did. -/
def fnExactDependencyViolationUptoRow : OpenClaim := { program := "ytnoennmhifmolaa", sum := "d083fdecdbb72771b3b74e8c5ad4ea7075e5507f359fdbf213e86414f36faf25", func := "loop.example/g01921/laws.FnExactDependencyViolation", spec := "fnExactDependencyViolation", unfollowed := true, recurses := true, apart := false, narrowed := true }
def FnExactDependencyViolationUptoSaid : Prop := fnExactDependencyViolationUptoRow.holds Try.pinned (OpenSpec.upto fnExactDependencyViolationSpec)

/-- 'laws.FnExactDependencyHolds', WHERE WHAT IT READS IS OF BULK AT MOST 1048576: true; the input reads as it did. -/
def fnExactDependencyHoldsUptoRow : OpenClaim := { program := "ytnoennmhifmolaa", sum := "d083fdecdbb72771b3b74e8c5ad4ea7075e5507f359fdbf213e86414f36faf25", func := "loop.example/g01921/laws.FnExactDependencyHolds", spec := "fnExactDependencyHolds", unfollowed := true, recurses := true, apart := false, narrowed := true }
def FnExactDependencyHoldsUptoSaid : Prop := fnExactDependencyHoldsUptoRow.holds Try.pinned (OpenSpec.upto fnExactDependencyHoldsSpec)

/-- 'laws.FnExactColumnClosure', WHERE WHAT IT READS IS OF BULK AT MOST 1048576: true; the input reads as it did. -/
def fnExactColumnClosureUptoRow : OpenClaim := { program := "ytnoennmhifmolaa", sum := "d083fdecdbb72771b3b74e8c5ad4ea7075e5507f359fdbf213e86414f36faf25", func := "loop.example/g01921/laws.FnExactColumnClosure", spec := "fnExactColumnClosure", recurses := true, apart := false, narrowed := true }
def FnExactColumnClosureUptoSaid : Prop := fnExactColumnClosureUptoRow.holds Try.pinned (OpenSpec.upto fnExactColumnClosureSpec)

/-- 'laws.FnExactIsKey', WHERE WHAT IT READS IS OF BULK AT MOST 1048576: true; the input reads as it did. -/
def fnExactIsKeyUptoRow : OpenClaim := { program := "ytnoennmhifmolaa", sum := "d083fdecdbb72771b3b74e8c5ad4ea7075e5507f359fdbf213e86414f36faf25", func := "loop.example/g01921/laws.FnExactIsKey", spec := "fnExactIsKey", unfollowed := true, recurses := true, apart := false, narrowed := true }
def FnExactIsKeyUptoSaid : Prop := fnExactIsKeyUptoRow.holds Try.pinned (OpenSpec.upto fnExactIsKeySpec)

/-- 'laws.FnExactMinimalKeys', WHERE WHAT IT READS IS OF BULK AT MOST 1048576: true; the input reads as it did. -/
def fnExactMinimalKeysUptoRow : OpenClaim := { program := "ytnoennmhifmolaa", sum := "d083fdecdbb72771b3b74e8c5ad4ea7075e5507f359fdbf213e86414f36faf25", func := "loop.example/g01921/laws.FnExactMinimalKeys", spec := "fnExactMinimalKeys", unfollowed := true, recurses := true, apart := false, narrowed := true }
def FnExactMinimalKeysUptoSaid : Prop := fnExactMinimalKeysUptoRow.holds Try.pinned (OpenSpec.upto fnExactMinimalKeysSpec)

/-- 'laws.FnExactIsValidInclusion', WHERE WHAT IT READS IS OF BULK AT MOST 1048576: true; the input reads as it did. -/
def fnExactIsValidInclusionUptoRow : OpenClaim := { program := "ytnoennmhifmolaa", sum := "d083fdecdbb72771b3b74e8c5ad4ea7075e5507f359fdbf213e86414f36faf25", func := "loop.example/g01921/laws.FnExactIsValidInclusion", spec := "fnExactIsValidInclusion", unfollowed := true, recurses := true, apart := false, narrowed := true }
def FnExactIsValidInclusionUptoSaid : Prop := fnExactIsValidInclusionUptoRow.holds Try.pinned (OpenSpec.upto fnExactIsValidInclusionSpec)

/-- 'laws.FnExactInclusionHolds', WHERE WHAT IT READS IS OF BULK AT MOST 1048576: true; the input reads as it did. -/
def fnExactInclusionHoldsUptoRow : OpenClaim := { program := "ytnoennmhifmolaa", sum := "d083fdecdbb72771b3b74e8c5ad4ea7075e5507f359fdbf213e86414f36faf25", func := "loop.example/g01921/laws.FnExactInclusionHolds", spec := "fnExactInclusionHolds", unfollowed := true, recurses := true, apart := false, narrowed := true }
def FnExactInclusionHoldsUptoSaid : Prop := fnExactInclusionHoldsUptoRow.holds Try.pinned (OpenSpec.upto fnExactInclusionHoldsSpec)

/-- 'laws.FnExactMissingValues', WHERE WHAT IT READS IS OF BULK AT MOST 1048576: true; the input reads as it did. -/
def fnExactMissingValuesUptoRow : OpenClaim := { program := "ytnoennmhifmolaa", sum := "d083fdecdbb72771b3b74e8c5ad4ea7075e5507f359fdbf213e86414f36faf25", func := "loop.example/g01921/laws.FnExactMissingValues", spec := "fnExactMissingValues", unfollowed := true, recurses := true, apart := false, narrowed := true }
def FnExactMissingValuesUptoSaid : Prop := fnExactMissingValuesUptoRow.holds Try.pinned (OpenSpec.upto fnExactMissingValuesSpec)

end Rows
end Go.Proofs.Ytnoennmhifmolaa
