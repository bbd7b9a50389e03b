/-
  No cell of these rows narrows 'for every input' (looked for: loops, veiled, ifaces, maps, wideKeys, modest, calm, conditions, laid).
  DERIVED. THE GIVEN ROWS OF THIS SEAT. 8 by the template 'for every input the law returns true; each argument reads behind the call as it read before'; 0 by the template 'total and deterministic' (their statements: YtnjomgefmoehhaaTotals.lean).
  GIVEN WITH THE SEED: the statements are not yours to turn. If you find one false, say at which input.
  Laid BY PROGRAM, IN A SANDBOX (cutbox-rows.mjs): the forced cells as the released guide's own fill.sh prints them over the translation 671b2447b103f7cd… (all of the seat's roots in one cut). By AI agents, Wed Nov 11 2026. No macro, syntax, notation, axiom, sorry.
-/
import Derived.Test.YtnjomgefmoehhaaChecked
import GoSem.Claim
import GoSem.ClaimJoined
import GoSem.ClaimMapViews
import Derived.JoinedTies
import Derived.KernelRfl
namespace Go.Proofs.Ytnjomgefmoehhaa
/- THE CELL 'sum', in the pinned program and in every row, IS THE sha256 OF THE DUMP (.gsa) THAT YtnjomgefmoehhaaProg.lean LOADS. Nothing in Lean hashes anything: it is a label: what it is worth is what the hold of that sum in a sandbox is worth. -/
noncomputable def Try.pinned : Pinned := { name := "ytnjomgefmoehhaa", sum := "671b2447b103f7cde921594cf95daef9e85e42bd24945154114f4adc4f806f90", checked := Try.checked }
namespace Rows
def none {H : Type} : Left H := { results := [], args := [] }

/-- 'laws.FnDegrees': WHATEVER THE INPUT: true; the input reads as it did. -/
def fnDegreesSpec : ChangeSpec := { name := "fnDegrees", fn := fun _ => fun
  | [d] => { results := [.lit (.bool true)], args := [d] }
  | _ => none }
def fnDegreesRow : OpenClaim := { program := "ytnjomgefmoehhaa", sum := "671b2447b103f7cde921594cf95daef9e85e42bd24945154114f4adc4f806f90", func := "loop.example/g01921/laws.FnDegrees", spec := "fnDegrees", unfollowed := true, recurses := true, apart := false }
def FnDegreesSaid : Prop := fnDegreesRow.holds Try.pinned (OpenSpec.ofChange fnDegreesSpec)

/-- ITS FALSE NEIGHBOUR: 'it returns false'. Refute it at one input. -/
def fnDegreesWrong : ChangeSpec := { name := "fnDegrees", fn := fun _ => fun
  | [d] => { results := [.lit (.bool false)], args := [d] }
  | _ => none }
def FnDegreesWrongFalsely : Prop := fnDegreesRow.holds Try.pinned (OpenSpec.ofChange fnDegreesWrong)

/-- 'laws.FnExactGroupCounts': WHATEVER THE INPUT: true; the input reads as it did. -/
def fnExactGroupCountsSpec : ChangeSpec := { name := "fnExactGroupCounts", fn := fun _ => fun
  | [d1, d2] => { results := [.lit (.bool true)], args := [d1, d2] }
  | _ => none }
def fnExactGroupCountsRow : OpenClaim := { program := "ytnjomgefmoehhaa", sum := "671b2447b103f7cde921594cf95daef9e85e42bd24945154114f4adc4f806f90", func := "loop.example/g01921/laws.FnExactGroupCounts", spec := "fnExactGroupCounts", unfollowed := true, recurses := true, apart := false }
def FnExactGroupCountsSaid : Prop := fnExactGroupCountsRow.holds Try.pinned (OpenSpec.ofChange fnExactGroupCountsSpec)

/-- ITS FALSE NEIGHBOUR: 'it returns false'. Refute it at one input. -/
def fnExactGroupCountsWrong : ChangeSpec := { name := "fnExactGroupCounts", fn := fun _ => fun
  | [d1, d2] => { results := [.lit (.bool false)], args := [d1, d2] }
  | _ => none }
def FnExactGroupCountsWrongFalsely : Prop := fnExactGroupCountsRow.holds Try.pinned (OpenSpec.ofChange fnExactGroupCountsWrong)

/-- 'laws.FnExactDegreeSequence': WHATEVER THE INPUT: true; the input reads as it did. -/
def fnExactDegreeSequenceSpec : ChangeSpec := { name := "fnExactDegreeSequence", fn := fun _ => fun
  | [d1, d2] => { results := [.lit (.bool true)], args := [d1, d2] }
  | _ => none }
def fnExactDegreeSequenceRow : OpenClaim := { program := "ytnjomgefmoehhaa", sum := "671b2447b103f7cde921594cf95daef9e85e42bd24945154114f4adc4f806f90", func := "loop.example/g01921/laws.FnExactDegreeSequence", spec := "fnExactDegreeSequence", unfollowed := true, recurses := true, apart := false }
def FnExactDegreeSequenceSaid : Prop := fnExactDegreeSequenceRow.holds Try.pinned (OpenSpec.ofChange fnExactDegreeSequenceSpec)

/-- ITS FALSE NEIGHBOUR: 'it returns false'. Refute it at one input. -/
def fnExactDegreeSequenceWrong : ChangeSpec := { name := "fnExactDegreeSequence", fn := fun _ => fun
  | [d1, d2] => { results := [.lit (.bool false)], args := [d1, d2] }
  | _ => none }
def FnExactDegreeSequenceWrongFalsely : Prop := fnExactDegreeSequenceRow.holds Try.pinned (OpenSpec.ofChange fnExactDegreeSequenceWrong)

/-- 'laws.FnExactMaxDegree': WHATEVER THE INPUT: true; the input reads as it did. -/
def fnExactMaxDegreeSpec : ChangeSpec := { name := "fnExactMaxDegree", fn := fun _ => fun
  | [d1, d2] => { results := [.lit (.bool true)], args := [d1, d2] }
  | _ => none }
def fnExactMaxDegreeRow : OpenClaim := { program := "ytnjomgefmoehhaa", sum := "671b2447b103f7cde921594cf95daef9e85e42bd24945154114f4adc4f806f90", func := "loop.example/g01921/laws.FnExactMaxDegree", spec := "fnExactMaxDegree", unfollowed := true, recurses := true, apart := false }
def FnExactMaxDegreeSaid : Prop := fnExactMaxDegreeRow.holds Try.pinned (OpenSpec.ofChange fnExactMaxDegreeSpec)

/-- ITS FALSE NEIGHBOUR: 'it returns false'. Refute it at one input. -/
def fnExactMaxDegreeWrong : ChangeSpec := { name := "fnExactMaxDegree", fn := fun _ => fun
  | [d1, d2] => { results := [.lit (.bool false)], args := [d1, d2] }
  | _ => none }
def FnExactMaxDegreeWrongFalsely : Prop := fnExactMaxDegreeRow.holds Try.pinned (OpenSpec.ofChange fnExactMaxDegreeWrong)

/-- 'laws.FnExactIsDegreeSequence': WHATEVER THE INPUT: true; the input reads as it did. -/
def fnExactIsDegreeSequenceSpec : ChangeSpec := { name := "fnExactIsDegreeSequence", fn := fun _ => fun
  | [d] => { results := [.lit (.bool true)], args := [d] }
  | _ => none }
def fnExactIsDegreeSequenceRow : OpenClaim := { program := "ytnjomgefmoehhaa", sum := "671b2447b103f7cde921594cf95daef9e85e42bd24945154114f4adc4f806f90", func := "loop.example/g01921/laws.FnExactIsDegreeSequence", spec := "fnExactIsDegreeSequence", apart := false }
def FnExactIsDegreeSequenceSaid : Prop := fnExactIsDegreeSequenceRow.holds Try.pinned (OpenSpec.ofChange fnExactIsDegreeSequenceSpec)

/-- ITS FALSE NEIGHBOUR: 'it returns false'. Refute it at one input. -/
def fnExactIsDegreeSequenceWrong : ChangeSpec := { name := "fnExactIsDegreeSequence", fn := fun _ => fun
  | [d] => { results := [.lit (.bool false)], args := [d] }
  | _ => none }
def FnExactIsDegreeSequenceWrongFalsely : Prop := fnExactIsDegreeSequenceRow.holds Try.pinned (OpenSpec.ofChange fnExactIsDegreeSequenceWrong)

/-- 'laws.FnExactSequenceTotal': WHATEVER THE INPUT: true; the input reads as it did. -/
def fnExactSequenceTotalSpec : ChangeSpec := { name := "fnExactSequenceTotal", fn := fun _ => fun
  | [d] => { results := [.lit (.bool true)], args := [d] }
  | _ => none }
def fnExactSequenceTotalRow : OpenClaim := { program := "ytnjomgefmoehhaa", sum := "671b2447b103f7cde921594cf95daef9e85e42bd24945154114f4adc4f806f90", func := "loop.example/g01921/laws.FnExactSequenceTotal", spec := "fnExactSequenceTotal", apart := false }
def FnExactSequenceTotalSaid : Prop := fnExactSequenceTotalRow.holds Try.pinned (OpenSpec.ofChange fnExactSequenceTotalSpec)

/-- ITS FALSE NEIGHBOUR: 'it returns false'. Refute it at one input. -/
def fnExactSequenceTotalWrong : ChangeSpec := { name := "fnExactSequenceTotal", fn := fun _ => fun
  | [d] => { results := [.lit (.bool false)], args := [d] }
  | _ => none }
def FnExactSequenceTotalWrongFalsely : Prop := fnExactSequenceTotalRow.holds Try.pinned (OpenSpec.ofChange fnExactSequenceTotalWrong)

/-- 'laws.FnExactTopDegrees': WHATEVER THE INPUT: true; the input reads as it did. -/
def fnExactTopDegreesSpec : ChangeSpec := { name := "fnExactTopDegrees", fn := fun _ => fun
  | [d1, d2] => { results := [.lit (.bool true)], args := [d1, d2] }
  | _ => none }
def fnExactTopDegreesRow : OpenClaim := { program := "ytnjomgefmoehhaa", sum := "671b2447b103f7cde921594cf95daef9e85e42bd24945154114f4adc4f806f90", func := "loop.example/g01921/laws.FnExactTopDegrees", spec := "fnExactTopDegrees", apart := false }
def FnExactTopDegreesSaid : Prop := fnExactTopDegreesRow.holds Try.pinned (OpenSpec.ofChange fnExactTopDegreesSpec)

/-- ITS FALSE NEIGHBOUR: 'it returns false'. Refute it at one input. -/
def fnExactTopDegreesWrong : ChangeSpec := { name := "fnExactTopDegrees", fn := fun _ => fun
  | [d1, d2] => { results := [.lit (.bool false)], args := [d1, d2] }
  | _ => none }
def FnExactTopDegreesWrongFalsely : Prop := fnExactTopDegreesRow.holds Try.pinned (OpenSpec.ofChange fnExactTopDegreesWrong)

/-- 'laws.FnExactDominatesSequence': WHATEVER THE INPUT: true; the input reads as it did. -/
def fnExactDominatesSequenceSpec : ChangeSpec := { name := "fnExactDominatesSequence", fn := fun _ => fun
  | [d1, d2] => { results := [.lit (.bool true)], args := [d1, d2] }
  | _ => none }
def fnExactDominatesSequenceRow : OpenClaim := { program := "ytnjomgefmoehhaa", sum := "671b2447b103f7cde921594cf95daef9e85e42bd24945154114f4adc4f806f90", func := "loop.example/g01921/laws.FnExactDominatesSequence", spec := "fnExactDominatesSequence", apart := false }
def FnExactDominatesSequenceSaid : Prop := fnExactDominatesSequenceRow.holds Try.pinned (OpenSpec.ofChange fnExactDominatesSequenceSpec)

/-- ITS FALSE NEIGHBOUR: 'it returns false'. Refute it at one input. -/
def fnExactDominatesSequenceWrong : ChangeSpec := { name := "fnExactDominatesSequence", fn := fun _ => fun
  | [d1, d2] => { results := [.lit (.bool false)], args := [d1, d2] }
  | _ => none }
def FnExactDominatesSequenceWrongFalsely : Prop := fnExactDominatesSequenceRow.holds Try.pinned (OpenSpec.ofChange fnExactDominatesSequenceWrong)

/- THE SECOND FORM. 'bulk': how many values and letters a reading holds, each counted each time it is reached (what is shared counts as often as it is met; a slice's spare places count too). A statement '..UptoSaid' is the law's where the arguments, and the package variables that the reading takes, are together of bulk at most 1048576: NARROWER than '..Said'. Prove '..Said' where nothing that the law and all that it calls make is longer than what came in: it says more and counts as full. Else prove '..UptoSaid'. A law counts once. -/
mutual
def uptoBulk {H : Type} : DataW H → Nat
  | .lit (.string bytes) => bytes.length + 1
  | .lit _ => 1
  | .nil => 1
  | .ptr d => uptoBulk d + 1
  | .slice elems spare => uptoBulkAll elems + uptoBulkAll spare + 1
  | .agg parts => uptoBulkAll parts + 1
  | .iface _ d => uptoBulk d + 1
  | .map entries => uptoBulkEntries entries + 1
  | .held _ => 1
def uptoBulkAll {H : Type} : List (DataW H) → Nat
  | [] => 0
  | d :: r => uptoBulk d + uptoBulkAll r
def uptoBulkEntries {H : Type} : List (Lit × DataW H) → Nat
  | [] => 0
  | x :: r => uptoBulkEntry x + uptoBulkEntries r
def uptoBulkEntry {H : Type} : Lit × DataW H → Nat
  | (.string bytes, d) => bytes.length + uptoBulk d + 1
  | (_, d) => uptoBulk d + 1
 end
def uptoSmall : (H : Type) → List (DataW H) → Bool := fun _ ds => decide (uptoBulkAll ds ≤ 1048576)
def OpenSpec.upto (s : _root_.Go.ChangeSpec) : _root_.Go.OpenSpec := { _root_.Go.OpenSpec.ofChange s with cond := some uptoSmall }

/-- 'laws.FnDegrees', WHERE WHAT IT READS IS OF BULK AT MOST 1048576: true; the input reads as it did. -/
def fnDegreesUptoRow : OpenClaim := { program := "ytnjomgefmoehhaa", sum := "671b2447b103f7cde921594cf95daef9e85e42bd24945154114f4adc4f806f90", func := "loop.example/g01921/laws.FnDegrees", spec := "fnDegrees", unfollowed := true, recurses := true, apart := false, narrowed := true }
def FnDegreesUptoSaid : Prop := fnDegreesUptoRow.holds Try.pinned (OpenSpec.upto fnDegreesSpec)

/-- 'laws.FnExactGroupCounts', WHERE WHAT IT READS IS OF BULK AT MOST 1048576: true; the input reads as it did. -/
def fnExactGroupCountsUptoRow : OpenClaim := { program := "ytnjomgefmoehhaa", sum := "671b2447b103f7cde921594cf95daef9e85e42bd24945154114f4adc4f806f90", func := "loop.example/g01921/laws.FnExactGroupCounts", spec := "fnExactGroupCounts", unfollowed := true, recurses := true, apart := false, narrowed := true }
def FnExactGroupCountsUptoSaid : Prop := fnExactGroupCountsUptoRow.holds Try.pinned (OpenSpec.upto fnExactGroupCountsSpec)

/-- 'laws.FnExactDegreeSequence', WHERE WHAT IT READS IS OF BULK AT MOST 1048576: true; the input reads as it did. -/
def fnExactDegreeSequenceUptoRow : OpenClaim := { program := "ytnjomgefmoehhaa", sum := "671b2447b103f7cde921594cf95daef9e85e42bd24945154114f4adc4f806f90", func := "loop.example/g01921/laws.FnExactDegreeSequence", spec := "fnExactDegreeSequence", unfollowed := true, recurses := true, apart := false, narrowed := true }
def FnExactDegreeSequenceUptoSaid : Prop := fnExactDegreeSequenceUptoRow.holds Try.pinned (OpenSpec.upto fnExactDegreeSequenceSpec)

/-- 'laws.FnExactMaxDegree', WHERE WHAT IT READS IS OF BULK AT MOST 1048576: true; the input reads as it did. -/
def fnExactMaxDegreeUptoRow : OpenClaim := { program := "ytnjomgefmoehhaa", sum := "671b2447b103f7cde921594cf95daef9e85e42bd24945154114f4adc4f806f90", func := "loop.example/g01921/laws.FnExactMaxDegree", spec := "fnExactMaxDegree", unfollowed := true, recurses := true, apart := false, narrowed := true }
def FnExactMaxDegreeUptoSaid : Prop := fnExactMaxDegreeUptoRow.holds Try.pinned (OpenSpec.upto fnExactMaxDegreeSpec)

/-- 'laws.FnExactIsDegreeSequence', WHERE WHAT IT READS IS OF BULK AT MOST 1048576: true; the input reads as it did. -/
def fnExactIsDegreeSequenceUptoRow : OpenClaim := { program := "ytnjomgefmoehhaa", sum := "671b2447b103f7cde921594cf95daef9e85e42bd24945154114f4adc4f806f90", func := "loop.example/g01921/laws.FnExactIsDegreeSequence", spec := "fnExactIsDegreeSequence", apart := false, narrowed := true }
def FnExactIsDegreeSequenceUptoSaid : Prop := fnExactIsDegreeSequenceUptoRow.holds Try.pinned (OpenSpec.upto fnExactIsDegreeSequenceSpec)

/-- 'laws.FnExactSequenceTotal', WHERE WHAT IT READS IS OF BULK AT MOST 1048576: true; the input reads as it did. -/
def fnExactSequenceTotalUptoRow : OpenClaim := { program := "ytnjomgefmoehhaa", sum := "671b2447b103f7cde921594cf95daef9e85e42bd24945154114f4adc4f806f90", func := "loop.example/g01921/laws.FnExactSequenceTotal", spec := "fnExactSequenceTotal", apart := false, narrowed := true }
def FnExactSequenceTotalUptoSaid : Prop := fnExactSequenceTotalUptoRow.holds Try.pinned (OpenSpec.upto fnExactSequenceTotalSpec)

/-- 'laws.FnExactTopDegrees', WHERE WHAT IT READS IS OF BULK AT MOST 1048576: true; the input reads as it did. -/
def fnExactTopDegreesUptoRow : OpenClaim := { program := "ytnjomgefmoehhaa", sum := "671b2447b103f7cde921594cf95daef9e85e42bd24945154114f4adc4f806f90", func := "loop.example/g01921/laws.FnExactTopDegrees", spec := "fnExactTopDegrees", apart := false, narrowed := true }
def FnExactTopDegreesUptoSaid : Prop := fnExactTopDegreesUptoRow.holds Try.pinned (OpenSpec.upto fnExactTopDegreesSpec)

/-- 'laws.FnExactDominatesSequence', WHERE WHAT IT READS IS OF BULK AT MOST 1048576: true; the input reads as it did. -/
def fnExactDominatesSequenceUptoRow : OpenClaim := { program := "ytnjomgefmoehhaa", sum := "671b2447b103f7cde921594cf95daef9e85e42bd24945154114f4adc4f806f90", func := "loop.example/g01921/laws.FnExactDominatesSequence", spec := "fnExactDominatesSequence", apart := false, narrowed := true }
def FnExactDominatesSequenceUptoSaid : Prop := fnExactDominatesSequenceUptoRow.holds Try.pinned (OpenSpec.upto fnExactDominatesSequenceSpec)

end Rows
end Go.Proofs.Ytnjomgefmoehhaa
