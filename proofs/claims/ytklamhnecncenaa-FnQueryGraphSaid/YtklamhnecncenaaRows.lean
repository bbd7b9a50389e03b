/-
  No cell of these rows narrows 'for every input' (looked for: loops, veiled, ifaces, maps, wideKeys, modest, calm, conditions, laid).
  DERIVED. THE GIVEN ROWS OF THIS SEAT. 10 by the template 'for every input the law returns true; each argument reads behind the call as it read before'; 0 by the template 'total and deterministic' (their statements: YtklamhnecncenaaTotals.lean).
  GIVEN WITH THE SEED: the statements are not yours to turn. If you find one false, say at which input.
  Laid BY PROGRAM, IN A SANDBOX (cutbox-rows.mjs): the forced cells as the released guide's own fill.sh prints them over the translation 52a32723bf7e82ee… (all of the seat's roots in one cut). By AI agents, Wed Nov 11 2026. No macro, syntax, notation, axiom, sorry.
-/
import Derived.Test.YtklamhnecncenaaChecked
import GoSem.Claim
import GoSem.ClaimJoined
import GoSem.ClaimMapViews
import Derived.JoinedTies
import Derived.KernelRfl
namespace Go.Proofs.Ytklamhnecncenaa
/- THE CELL 'sum', in the pinned program and in every row, IS THE sha256 OF THE DUMP (.gsa) THAT YtklamhnecncenaaProg.lean LOADS. Nothing in Lean hashes anything: it is a label: what it is worth is what the hold of that sum in a sandbox is worth. -/
noncomputable def Try.pinned : Pinned := { name := "ytklamhnecncenaa", sum := "52a32723bf7e82ee272e82bc08caeeac2ac10d13142db310e2bdb1c933fb92d3", checked := Try.checked }
namespace Rows
def none {H : Type} : Left H := { results := [], args := [] }

/-- 'laws.FnSequenceBounds': WHATEVER THE INPUT: true; the input reads as it did. -/
def fnSequenceBoundsSpec : ChangeSpec := { name := "fnSequenceBounds", fn := fun _ => fun
  | [d] => { results := [.lit (.bool true)], args := [d] }
  | _ => none }
def fnSequenceBoundsRow : OpenClaim := { program := "ytklamhnecncenaa", sum := "52a32723bf7e82ee272e82bc08caeeac2ac10d13142db310e2bdb1c933fb92d3", func := "loop.example/g01921/laws.FnSequenceBounds", spec := "fnSequenceBounds", unfollowed := true, recurses := true, apart := false }
def FnSequenceBoundsSaid : Prop := fnSequenceBoundsRow.holds Try.pinned (OpenSpec.ofChange fnSequenceBoundsSpec)

/-- ITS FALSE NEIGHBOUR: 'it returns false'. Refute it at one input. -/
def fnSequenceBoundsWrong : ChangeSpec := { name := "fnSequenceBounds", fn := fun _ => fun
  | [d] => { results := [.lit (.bool false)], args := [d] }
  | _ => none }
def FnSequenceBoundsWrongFalsely : Prop := fnSequenceBoundsRow.holds Try.pinned (OpenSpec.ofChange fnSequenceBoundsWrong)

/-- 'laws.FnExactPairSequenceBound': WHATEVER THE INPUT: true; the input reads as it did. -/
def fnExactPairSequenceBoundSpec : ChangeSpec := { name := "fnExactPairSequenceBound", fn := fun _ => fun
  | [d1, d2] => { results := [.lit (.bool true)], args := [d1, d2] }
  | _ => none }
def fnExactPairSequenceBoundRow : OpenClaim := { program := "ytklamhnecncenaa", sum := "52a32723bf7e82ee272e82bc08caeeac2ac10d13142db310e2bdb1c933fb92d3", func := "loop.example/g01921/laws.FnExactPairSequenceBound", spec := "fnExactPairSequenceBound", unfollowed := true, recurses := true, apart := false }
def FnExactPairSequenceBoundSaid : Prop := fnExactPairSequenceBoundRow.holds Try.pinned (OpenSpec.ofChange fnExactPairSequenceBoundSpec)

/-- ITS FALSE NEIGHBOUR: 'it returns false'. Refute it at one input. -/
def fnExactPairSequenceBoundWrong : ChangeSpec := { name := "fnExactPairSequenceBound", fn := fun _ => fun
  | [d1, d2] => { results := [.lit (.bool false)], args := [d1, d2] }
  | _ => none }
def FnExactPairSequenceBoundWrongFalsely : Prop := fnExactPairSequenceBoundRow.holds Try.pinned (OpenSpec.ofChange fnExactPairSequenceBoundWrong)

/-- 'laws.FnExactNormPower': WHATEVER THE INPUT: true; the input reads as it did. -/
def fnExactNormPowerSpec : ChangeSpec := { name := "fnExactNormPower", fn := fun _ => fun
  | [d1, d2] => { results := [.lit (.bool true)], args := [d1, d2] }
  | _ => none }
def fnExactNormPowerRow : OpenClaim := { program := "ytklamhnecncenaa", sum := "52a32723bf7e82ee272e82bc08caeeac2ac10d13142db310e2bdb1c933fb92d3", func := "loop.example/g01921/laws.FnExactNormPower", spec := "fnExactNormPower", unfollowed := true, recurses := true, apart := false }
def FnExactNormPowerSaid : Prop := fnExactNormPowerRow.holds Try.pinned (OpenSpec.ofChange fnExactNormPowerSpec)

/-- ITS FALSE NEIGHBOUR: 'it returns false'. Refute it at one input. -/
def fnExactNormPowerWrong : ChangeSpec := { name := "fnExactNormPower", fn := fun _ => fun
  | [d1, d2] => { results := [.lit (.bool false)], args := [d1, d2] }
  | _ => none }
def FnExactNormPowerWrongFalsely : Prop := fnExactNormPowerRow.holds Try.pinned (OpenSpec.ofChange fnExactNormPowerWrong)

/-- 'laws.FnExactIntegerRoot': WHATEVER THE INPUT: true; the input reads as it did. -/
def fnExactIntegerRootSpec : ChangeSpec := { name := "fnExactIntegerRoot", fn := fun _ => fun
  | [d1, d2] => { results := [.lit (.bool true)], args := [d1, d2] }
  | _ => none }
def fnExactIntegerRootRow : OpenClaim := { program := "ytklamhnecncenaa", sum := "52a32723bf7e82ee272e82bc08caeeac2ac10d13142db310e2bdb1c933fb92d3", func := "loop.example/g01921/laws.FnExactIntegerRoot", spec := "fnExactIntegerRoot", unfollowed := true, recurses := true, apart := false }
def FnExactIntegerRootSaid : Prop := fnExactIntegerRootRow.holds Try.pinned (OpenSpec.ofChange fnExactIntegerRootSpec)

/-- ITS FALSE NEIGHBOUR: 'it returns false'. Refute it at one input. -/
def fnExactIntegerRootWrong : ChangeSpec := { name := "fnExactIntegerRoot", fn := fun _ => fun
  | [d1, d2] => { results := [.lit (.bool false)], args := [d1, d2] }
  | _ => none }
def FnExactIntegerRootWrongFalsely : Prop := fnExactIntegerRootRow.holds Try.pinned (OpenSpec.ofChange fnExactIntegerRootWrong)

/-- 'laws.FnExactCauchyBound': WHATEVER THE INPUT: true; the input reads as it did. -/
def fnExactCauchyBoundSpec : ChangeSpec := { name := "fnExactCauchyBound", fn := fun _ => fun
  | [d1, d2] => { results := [.lit (.bool true)], args := [d1, d2] }
  | _ => none }
def fnExactCauchyBoundRow : OpenClaim := { program := "ytklamhnecncenaa", sum := "52a32723bf7e82ee272e82bc08caeeac2ac10d13142db310e2bdb1c933fb92d3", func := "loop.example/g01921/laws.FnExactCauchyBound", spec := "fnExactCauchyBound", unfollowed := true, recurses := true, apart := false }
def FnExactCauchyBoundSaid : Prop := fnExactCauchyBoundRow.holds Try.pinned (OpenSpec.ofChange fnExactCauchyBoundSpec)

/-- ITS FALSE NEIGHBOUR: 'it returns false'. Refute it at one input. -/
def fnExactCauchyBoundWrong : ChangeSpec := { name := "fnExactCauchyBound", fn := fun _ => fun
  | [d1, d2] => { results := [.lit (.bool false)], args := [d1, d2] }
  | _ => none }
def FnExactCauchyBoundWrongFalsely : Prop := fnExactCauchyBoundRow.holds Try.pinned (OpenSpec.ofChange fnExactCauchyBoundWrong)

/-- 'laws.FnExactMaxDegreeBound': WHATEVER THE INPUT: true; the input reads as it did. -/
def fnExactMaxDegreeBoundSpec : ChangeSpec := { name := "fnExactMaxDegreeBound", fn := fun _ => fun
  | [d1, d2] => { results := [.lit (.bool true)], args := [d1, d2] }
  | _ => none }
def fnExactMaxDegreeBoundRow : OpenClaim := { program := "ytklamhnecncenaa", sum := "52a32723bf7e82ee272e82bc08caeeac2ac10d13142db310e2bdb1c933fb92d3", func := "loop.example/g01921/laws.FnExactMaxDegreeBound", spec := "fnExactMaxDegreeBound", apart := false }
def FnExactMaxDegreeBoundSaid : Prop := fnExactMaxDegreeBoundRow.holds Try.pinned (OpenSpec.ofChange fnExactMaxDegreeBoundSpec)

/-- ITS FALSE NEIGHBOUR: 'it returns false'. Refute it at one input. -/
def fnExactMaxDegreeBoundWrong : ChangeSpec := { name := "fnExactMaxDegreeBound", fn := fun _ => fun
  | [d1, d2] => { results := [.lit (.bool false)], args := [d1, d2] }
  | _ => none }
def FnExactMaxDegreeBoundWrongFalsely : Prop := fnExactMaxDegreeBoundRow.holds Try.pinned (OpenSpec.ofChange fnExactMaxDegreeBoundWrong)

/-- 'laws.FnExactSequenceFromNorms': WHATEVER THE INPUT: true; the input reads as it did. -/
def fnExactSequenceFromNormsSpec : ChangeSpec := { name := "fnExactSequenceFromNorms", fn := fun _ => fun
  | [d1, d2] => { results := [.lit (.bool true)], args := [d1, d2] }
  | _ => none }
def fnExactSequenceFromNormsRow : OpenClaim := { program := "ytklamhnecncenaa", sum := "52a32723bf7e82ee272e82bc08caeeac2ac10d13142db310e2bdb1c933fb92d3", func := "loop.example/g01921/laws.FnExactSequenceFromNorms", spec := "fnExactSequenceFromNorms", apart := false }
def FnExactSequenceFromNormsSaid : Prop := fnExactSequenceFromNormsRow.holds Try.pinned (OpenSpec.ofChange fnExactSequenceFromNormsSpec)

/-- ITS FALSE NEIGHBOUR: 'it returns false'. Refute it at one input. -/
def fnExactSequenceFromNormsWrong : ChangeSpec := { name := "fnExactSequenceFromNorms", fn := fun _ => fun
  | [d1, d2] => { results := [.lit (.bool false)], args := [d1, d2] }
  | _ => none }
def FnExactSequenceFromNormsWrongFalsely : Prop := fnExactSequenceFromNormsRow.holds Try.pinned (OpenSpec.ofChange fnExactSequenceFromNormsWrong)

/-- 'laws.FnExactCountRows': WHATEVER THE INPUT: true; the input reads as it did. -/
def fnExactCountRowsSpec : ChangeSpec := { name := "fnExactCountRows", fn := fun _ => fun
  | [d] => { results := [.lit (.bool true)], args := [d] }
  | _ => none }
def fnExactCountRowsRow : OpenClaim := { program := "ytklamhnecncenaa", sum := "52a32723bf7e82ee272e82bc08caeeac2ac10d13142db310e2bdb1c933fb92d3", func := "loop.example/g01921/laws.FnExactCountRows", spec := "fnExactCountRows", unfollowed := true, recurses := true, apart := false }
def FnExactCountRowsSaid : Prop := fnExactCountRowsRow.holds Try.pinned (OpenSpec.ofChange fnExactCountRowsSpec)

/-- ITS FALSE NEIGHBOUR: 'it returns false'. Refute it at one input. -/
def fnExactCountRowsWrong : ChangeSpec := { name := "fnExactCountRows", fn := fun _ => fun
  | [d] => { results := [.lit (.bool false)], args := [d] }
  | _ => none }
def FnExactCountRowsWrongFalsely : Prop := fnExactCountRowsRow.holds Try.pinned (OpenSpec.ofChange fnExactCountRowsWrong)

/-- 'laws.FnQueryGraph': WHATEVER THE INPUT: true; the input reads as it did. -/
def fnQueryGraphSpec : ChangeSpec := { name := "fnQueryGraph", fn := fun _ => fun
  | [d] => { results := [.lit (.bool true)], args := [d] }
  | _ => none }
def fnQueryGraphRow : OpenClaim := { program := "ytklamhnecncenaa", sum := "52a32723bf7e82ee272e82bc08caeeac2ac10d13142db310e2bdb1c933fb92d3", func := "loop.example/g01921/laws.FnQueryGraph", spec := "fnQueryGraph", apart := false }
def FnQueryGraphSaid : Prop := fnQueryGraphRow.holds Try.pinned (OpenSpec.ofChange fnQueryGraphSpec)

/-- ITS FALSE NEIGHBOUR: 'it returns false'. Refute it at one input. -/
def fnQueryGraphWrong : ChangeSpec := { name := "fnQueryGraph", fn := fun _ => fun
  | [d] => { results := [.lit (.bool false)], args := [d] }
  | _ => none }
def FnQueryGraphWrongFalsely : Prop := fnQueryGraphRow.holds Try.pinned (OpenSpec.ofChange fnQueryGraphWrong)

/-- 'laws.FnExactCountJoinTrees': WHATEVER THE INPUT: true; the input reads as it did. -/
def fnExactCountJoinTreesSpec : ChangeSpec := { name := "fnExactCountJoinTrees", fn := fun _ => fun
  | [d1, d2] => { results := [.lit (.bool true)], args := [d1, d2] }
  | _ => none }
def fnExactCountJoinTreesRow : OpenClaim := { program := "ytklamhnecncenaa", sum := "52a32723bf7e82ee272e82bc08caeeac2ac10d13142db310e2bdb1c933fb92d3", func := "loop.example/g01921/laws.FnExactCountJoinTrees", spec := "fnExactCountJoinTrees", unfollowed := true, recurses := true, apart := false }
def FnExactCountJoinTreesSaid : Prop := fnExactCountJoinTreesRow.holds Try.pinned (OpenSpec.ofChange fnExactCountJoinTreesSpec)

/-- ITS FALSE NEIGHBOUR: 'it returns false'. Refute it at one input. -/
def fnExactCountJoinTreesWrong : ChangeSpec := { name := "fnExactCountJoinTrees", fn := fun _ => fun
  | [d1, d2] => { results := [.lit (.bool false)], args := [d1, d2] }
  | _ => none }
def FnExactCountJoinTreesWrongFalsely : Prop := fnExactCountJoinTreesRow.holds Try.pinned (OpenSpec.ofChange fnExactCountJoinTreesWrong)

/- THE SECOND FORM. 'bulk': how many values and letters a reading holds, each counted each time it is reached (what is shared counts as often as it is met; a slice's spare places count too). A statement '..UptoSaid' is the law's where the arguments, and the package variables that the reading takes, are together of bulk at most 1048576: NARROWER than '..Said'. Prove '..Said' where nothing that the law and all that it calls make is longer than what came in: it says more and counts as full. Else prove '..UptoSaid'. A law counts once. -/
mutual
def uptoBulk {H : Type} : DataW H → Nat
  | .lit (.string bytes) => bytes.length + 1
  | .lit _ => 1
  | .nil => 1
  | .ptr d => uptoBulk d + 1
  | .slice elems spare => uptoBulkAll elems + uptoBulkAll spare + 1
  | .agg parts => uptoBulkAll parts + 1
  | .iface _ d => uptoBulk d + 1
  | .map entries => uptoBulkEntries entries + 1
  | .held _ => 1
def uptoBulkAll {H : Type} : List (DataW H) → Nat
  | [] => 0
  | d :: r => uptoBulk d + uptoBulkAll r
def uptoBulkEntries {H : Type} : List (Lit × DataW H) → Nat
  | [] => 0
  | x :: r => uptoBulkEntry x + uptoBulkEntries r
def uptoBulkEntry {H : Type} : Lit × DataW H → Nat
  | (.string bytes, d) => bytes.length + uptoBulk d + 1
  | (_, d) => uptoBulk d + 1
 end
def uptoSmall : (H : Type) → List (DataW H) → Bool := fun _ ds => decide (uptoBulkAll ds ≤ 1048576)
def OpenSpec.upto (s : _root_.Go.ChangeSpec) : _root_.Go.OpenSpec := { _root_.Go.OpenSpec.ofChange s with cond := some uptoSmall }

/-- 'laws.FnSequenceBounds', WHERE WHAT IT READS IS OF BULK AT MOST 1048576: true; the input reads as it did. -/
def fnSequenceBoundsUptoRow : OpenClaim := { program := "ytklamhnecncenaa", sum := "52a32723bf7e82ee272e82bc08caeeac2ac10d13142db310e2bdb1c933fb92d3", func := "loop.example/g01921/laws.FnSequenceBounds", spec := "fnSequenceBounds", unfollowed := true, recurses := true, apart := false, narrowed := true }
def FnSequenceBoundsUptoSaid : Prop := fnSequenceBoundsUptoRow.holds Try.pinned (OpenSpec.upto fnSequenceBoundsSpec)

/-- 'laws.FnExactPairSequenceBound', WHERE WHAT IT READS IS OF BULK AT MOST 1048576: true; the input reads as it did. -/
def fnExactPairSequenceBoundUptoRow : OpenClaim := { program := "ytklamhnecncenaa", sum := "52a32723bf7e82ee272e82bc08caeeac2ac10d13142db310e2bdb1c933fb92d3", func := "loop.example/g01921/laws.FnExactPairSequenceBound", spec := "fnExactPairSequenceBound", unfollowed := true, recurses := true, apart := false, narrowed := true }
def FnExactPairSequenceBoundUptoSaid : Prop := fnExactPairSequenceBoundUptoRow.holds Try.pinned (OpenSpec.upto fnExactPairSequenceBoundSpec)

/-- 'laws.FnExactNormPower', WHERE WHAT IT READS IS OF BULK AT MOST 1048576: true; the input reads as it did. -/
def fnExactNormPowerUptoRow : OpenClaim := { program := "ytklamhnecncenaa", sum := "52a32723bf7e82ee272e82bc08caeeac2ac10d13142db310e2bdb1c933fb92d3", func := "loop.example/g01921/laws.FnExactNormPower", spec := "fnExactNormPower", unfollowed := true, recurses := true, apart := false, narrowed := true }
def FnExactNormPowerUptoSaid : Prop := fnExactNormPowerUptoRow.holds Try.pinned (OpenSpec.upto fnExactNormPowerSpec)

/-- 'laws.FnExactIntegerRoot', WHERE WHAT IT READS IS OF BULK AT MOST 1048576: true; the input reads as it did. -/
def fnExactIntegerRootUptoRow : OpenClaim := { program := "ytklamhnecncenaa", sum := "52a32723bf7e82ee272e82bc08caeeac2ac10d13142db310e2bdb1c933fb92d3", func := "loop.example/g01921/laws.FnExactIntegerRoot", spec := "fnExactIntegerRoot", unfollowed := true, recurses := true, apart := false, narrowed := true }
def FnExactIntegerRootUptoSaid : Prop := fnExactIntegerRootUptoRow.holds Try.pinned (OpenSpec.upto fnExactIntegerRootSpec)

/-- 'laws.FnExactCauchyBound', WHERE WHAT IT READS IS OF BULK AT MOST 1048576: true; the input reads as it did. -/
def fnExactCauchyBoundUptoRow : OpenClaim := { program := "ytklamhnecncenaa", sum := "52a32723bf7e82ee272e82bc08caeeac2ac10d13142db310e2bdb1c933fb92d3", func := "loop.example/g01921/laws.FnExactCauchyBound", spec := "fnExactCauchyBound", unfollowed := true, recurses := true, apart := false, narrowed := true }
def FnExactCauchyBoundUptoSaid : Prop := fnExactCauchyBoundUptoRow.holds Try.pinned (OpenSpec.upto fnExactCauchyBoundSpec)

/-- 'laws.FnExactMaxDegreeBound', WHERE WHAT IT READS IS OF BULK AT MOST 1048576: true; the input reads as it did. -/
def fnExactMaxDegreeBoundUptoRow : OpenClaim := { program := "ytklamhnecncenaa", sum := "52a32723bf7e82ee272e82bc08caeeac2ac10d13142db310e2bdb1c933fb92d3", func := "loop.example/g01921/laws.FnExactMaxDegreeBound", spec := "fnExactMaxDegreeBound", apart := false, narrowed := true }
def FnExactMaxDegreeBoundUptoSaid : Prop := fnExactMaxDegreeBoundUptoRow.holds Try.pinned (OpenSpec.upto fnExactMaxDegreeBoundSpec)

/-- 'laws.FnExactSequenceFromNorms', WHERE WHAT IT READS IS OF BULK AT MOST 1048576: true; the input reads as it did. -/
def fnExactSequenceFromNormsUptoRow : OpenClaim := { program := "ytklamhnecncenaa", sum := "52a32723bf7e82ee272e82bc08caeeac2ac10d13142db310e2bdb1c933fb92d3", func := "loop.example/g01921/laws.FnExactSequenceFromNorms", spec := "fnExactSequenceFromNorms", apart := false, narrowed := true }
def FnExactSequenceFromNormsUptoSaid : Prop := fnExactSequenceFromNormsUptoRow.holds Try.pinned (OpenSpec.upto fnExactSequenceFromNormsSpec)

/-- 'laws.FnExactCountRows', WHERE WHAT IT READS IS OF BULK AT MOST 1048576: true; the input reads as it did. -/
def fnExactCountRowsUptoRow : OpenClaim := { program := "ytklamhnecncenaa", sum := "52a32723bf7e82ee272e82bc08caeeac2ac10d13142db310e2bdb1c933fb92d3", func := "loop.example/g01921/laws.FnExactCountRows", spec := "fnExactCountRows", unfollowed := true, recurses := true, apart := false, narrowed := true }
def FnExactCountRowsUptoSaid : Prop := fnExactCountRowsUptoRow.holds Try.pinned (OpenSpec.upto fnExactCountRowsSpec)

/-- 'laws.FnQueryGraph', WHERE WHAT IT READS IS OF BULK AT MOST 1048576: true; the input reads as it did. -/
def fnQueryGraphUptoRow : OpenClaim := { program := "ytklamhnecncenaa", sum := "52a32723bf7e82ee272e82bc08caeeac2ac10d13142db310e2bdb1c933fb92d3", func := "loop.example/g01921/laws.FnQueryGraph", spec := "fnQueryGraph", apart := false, narrowed := true }
def FnQueryGraphUptoSaid : Prop := fnQueryGraphUptoRow.holds Try.pinned (OpenSpec.upto fnQueryGraphSpec)

/-- 'laws.FnExactCountJoinTrees', WHERE WHAT IT READS IS OF BULK AT MOST 1048576: true; the input reads as it did. -/
def fnExactCountJoinTreesUptoRow : OpenClaim := { program := "ytklamhnecncenaa", sum := "52a32723bf7e82ee272e82bc08caeeac2ac10d13142db310e2bdb1c933fb92d3", func := "loop.example/g01921/laws.FnExactCountJoinTrees", spec := "fnExactCountJoinTrees", unfollowed := true, recurses := true, apart := false, narrowed := true }
def FnExactCountJoinTreesUptoSaid : Prop := fnExactCountJoinTreesUptoRow.holds Try.pinned (OpenSpec.upto fnExactCountJoinTreesSpec)

end Rows
end Go.Proofs.Ytklamhnecncenaa
