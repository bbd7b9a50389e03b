/-
  No cell of these rows narrows 'for every input' (looked for: loops, veiled, ifaces, maps, wideKeys, modest, calm, conditions, laid).
  DERIVED. THE GIVEN ROWS OF THIS SEAT. 8 by the template 'for every input the law returns true; each argument reads behind the call as it read before'; 0 by the template 'total and deterministic' (their statements: YtohkbnnamhmgeaaTotals.lean).
  GIVEN WITH THE SEED: the statements are not yours to turn. If you find one false, say at which input.
  Laid BY PROGRAM, IN A SANDBOX (cutbox-rows.mjs): the forced cells as the released guide's own fill.sh prints them over the translation 4d72fe4983662d26… (all of the seat's roots in one cut). By AI agents, Wed Nov 11 2026. No macro, syntax, notation, axiom, sorry.
-/
import Derived.Test.YtohkbnnamhmgeaaChecked
import GoSem.Claim
import GoSem.ClaimJoined
import GoSem.ClaimMapViews
import Derived.JoinedTies
import Derived.KernelRfl
namespace Go.Proofs.Ytohkbnnamhmgeaa
/- THE CELL 'sum', in the pinned program and in every row, IS THE sha256 OF THE DUMP (.gsa) THAT YtohkbnnamhmgeaaProg.lean LOADS. Nothing in Lean hashes anything: it is a label: what it is worth is what the hold of that sum in a sandbox is worth. -/
noncomputable def Try.pinned : Pinned := { name := "ytohkbnnamhmgeaa", sum := "4d72fe4983662d262fafa8b5255dc7272b63e2a00240bf0f417c885cdb27af88", checked := Try.checked }
namespace Rows
def none {H : Type} : Left H := { results := [], args := [] }

/-- 'laws.FnQueryGraph': WHATEVER THE INPUT: true; the input reads as it did. -/
def fnQueryGraphSpec : ChangeSpec := { name := "fnQueryGraph", fn := fun _ => fun
  | [d] => { results := [.lit (.bool true)], args := [d] }
  | _ => none }
def fnQueryGraphRow : OpenClaim := { program := "ytohkbnnamhmgeaa", sum := "4d72fe4983662d262fafa8b5255dc7272b63e2a00240bf0f417c885cdb27af88", func := "loop.example/g01921/laws.FnQueryGraph", spec := "fnQueryGraph", apart := false }
def FnQueryGraphSaid : Prop := fnQueryGraphRow.holds Try.pinned (OpenSpec.ofChange fnQueryGraphSpec)

/-- ITS FALSE NEIGHBOUR: 'it returns false'. Refute it at one input. -/
def fnQueryGraphWrong : ChangeSpec := { name := "fnQueryGraph", fn := fun _ => fun
  | [d] => { results := [.lit (.bool false)], args := [d] }
  | _ => none }
def FnQueryGraphWrongFalsely : Prop := fnQueryGraphRow.holds Try.pinned (OpenSpec.ofChange fnQueryGraphWrong)

/-- 'laws.FnExactFullMask': WHATEVER THE INPUT: true; the input reads as it did. -/
def fnExactFullMaskSpec : ChangeSpec := { name := "fnExactFullMask", fn := fun _ => fun
  | [d] => { results := [.lit (.bool true)], args := [d] }
  | _ => none }
def fnExactFullMaskRow : OpenClaim := { program := "ytohkbnnamhmgeaa", sum := "4d72fe4983662d262fafa8b5255dc7272b63e2a00240bf0f417c885cdb27af88", func := "loop.example/g01921/laws.FnExactFullMask", spec := "fnExactFullMask", apart := false }
def FnExactFullMaskSaid : Prop := fnExactFullMaskRow.holds Try.pinned (OpenSpec.ofChange fnExactFullMaskSpec)

/-- ITS FALSE NEIGHBOUR: 'it returns false'. Refute it at one input. -/
def fnExactFullMaskWrong : ChangeSpec := { name := "fnExactFullMask", fn := fun _ => fun
  | [d] => { results := [.lit (.bool false)], args := [d] }
  | _ => none }
def FnExactFullMaskWrongFalsely : Prop := fnExactFullMaskRow.holds Try.pinned (OpenSpec.ofChange fnExactFullMaskWrong)

/-- 'laws.FnExactMaskAtoms': WHATEVER THE INPUT: true; the input reads as it did. -/
def fnExactMaskAtomsSpec : ChangeSpec := { name := "fnExactMaskAtoms", fn := fun _ => fun
  | [d] => { results := [.lit (.bool true)], args := [d] }
  | _ => none }
def fnExactMaskAtomsRow : OpenClaim := { program := "ytohkbnnamhmgeaa", sum := "4d72fe4983662d262fafa8b5255dc7272b63e2a00240bf0f417c885cdb27af88", func := "loop.example/g01921/laws.FnExactMaskAtoms", spec := "fnExactMaskAtoms", apart := false }
def FnExactMaskAtomsSaid : Prop := fnExactMaskAtomsRow.holds Try.pinned (OpenSpec.ofChange fnExactMaskAtomsSpec)

/-- ITS FALSE NEIGHBOUR: 'it returns false'. Refute it at one input. -/
def fnExactMaskAtomsWrong : ChangeSpec := { name := "fnExactMaskAtoms", fn := fun _ => fun
  | [d] => { results := [.lit (.bool false)], args := [d] }
  | _ => none }
def FnExactMaskAtomsWrongFalsely : Prop := fnExactMaskAtomsRow.holds Try.pinned (OpenSpec.ofChange fnExactMaskAtomsWrong)

/-- 'laws.FnExactNeighborMask': WHATEVER THE INPUT: true; the input reads as it did. -/
def fnExactNeighborMaskSpec : ChangeSpec := { name := "fnExactNeighborMask", fn := fun _ => fun
  | [d1, d2] => { results := [.lit (.bool true)], args := [d1, d2] }
  | _ => none }
def fnExactNeighborMaskRow : OpenClaim := { program := "ytohkbnnamhmgeaa", sum := "4d72fe4983662d262fafa8b5255dc7272b63e2a00240bf0f417c885cdb27af88", func := "loop.example/g01921/laws.FnExactNeighborMask", spec := "fnExactNeighborMask", apart := false }
def FnExactNeighborMaskSaid : Prop := fnExactNeighborMaskRow.holds Try.pinned (OpenSpec.ofChange fnExactNeighborMaskSpec)

/-- ITS FALSE NEIGHBOUR: 'it returns false'. Refute it at one input. -/
def fnExactNeighborMaskWrong : ChangeSpec := { name := "fnExactNeighborMask", fn := fun _ => fun
  | [d1, d2] => { results := [.lit (.bool false)], args := [d1, d2] }
  | _ => none }
def FnExactNeighborMaskWrongFalsely : Prop := fnExactNeighborMaskRow.holds Try.pinned (OpenSpec.ofChange fnExactNeighborMaskWrong)

/-- 'laws.FnExactIsConnected': WHATEVER THE INPUT: true; the input reads as it did. -/
def fnExactIsConnectedSpec : ChangeSpec := { name := "fnExactIsConnected", fn := fun _ => fun
  | [d1, d2] => { results := [.lit (.bool true)], args := [d1, d2] }
  | _ => none }
def fnExactIsConnectedRow : OpenClaim := { program := "ytohkbnnamhmgeaa", sum := "4d72fe4983662d262fafa8b5255dc7272b63e2a00240bf0f417c885cdb27af88", func := "loop.example/g01921/laws.FnExactIsConnected", spec := "fnExactIsConnected", apart := false }
def FnExactIsConnectedSaid : Prop := fnExactIsConnectedRow.holds Try.pinned (OpenSpec.ofChange fnExactIsConnectedSpec)

/-- ITS FALSE NEIGHBOUR: 'it returns false'. Refute it at one input. -/
def fnExactIsConnectedWrong : ChangeSpec := { name := "fnExactIsConnected", fn := fun _ => fun
  | [d1, d2] => { results := [.lit (.bool false)], args := [d1, d2] }
  | _ => none }
def FnExactIsConnectedWrongFalsely : Prop := fnExactIsConnectedRow.holds Try.pinned (OpenSpec.ofChange fnExactIsConnectedWrong)

/-- 'laws.FnExactConnectedMasks': WHATEVER THE INPUT: true; the input reads as it did. -/
def fnExactConnectedMasksSpec : ChangeSpec := { name := "fnExactConnectedMasks", fn := fun _ => fun
  | [d] => { results := [.lit (.bool true)], args := [d] }
  | _ => none }
def fnExactConnectedMasksRow : OpenClaim := { program := "ytohkbnnamhmgeaa", sum := "4d72fe4983662d262fafa8b5255dc7272b63e2a00240bf0f417c885cdb27af88", func := "loop.example/g01921/laws.FnExactConnectedMasks", spec := "fnExactConnectedMasks", apart := false }
def FnExactConnectedMasksSaid : Prop := fnExactConnectedMasksRow.holds Try.pinned (OpenSpec.ofChange fnExactConnectedMasksSpec)

/-- ITS FALSE NEIGHBOUR: 'it returns false'. Refute it at one input. -/
def fnExactConnectedMasksWrong : ChangeSpec := { name := "fnExactConnectedMasks", fn := fun _ => fun
  | [d] => { results := [.lit (.bool false)], args := [d] }
  | _ => none }
def FnExactConnectedMasksWrongFalsely : Prop := fnExactConnectedMasksRow.holds Try.pinned (OpenSpec.ofChange fnExactConnectedMasksWrong)

/-- 'laws.FnExactJoinSplits': WHATEVER THE INPUT: true; the input reads as it did. -/
def fnExactJoinSplitsSpec : ChangeSpec := { name := "fnExactJoinSplits", fn := fun _ => fun
  | [d1, d2] => { results := [.lit (.bool true)], args := [d1, d2] }
  | _ => none }
def fnExactJoinSplitsRow : OpenClaim := { program := "ytohkbnnamhmgeaa", sum := "4d72fe4983662d262fafa8b5255dc7272b63e2a00240bf0f417c885cdb27af88", func := "loop.example/g01921/laws.FnExactJoinSplits", spec := "fnExactJoinSplits", apart := false }
def FnExactJoinSplitsSaid : Prop := fnExactJoinSplitsRow.holds Try.pinned (OpenSpec.ofChange fnExactJoinSplitsSpec)

/-- ITS FALSE NEIGHBOUR: 'it returns false'. Refute it at one input. -/
def fnExactJoinSplitsWrong : ChangeSpec := { name := "fnExactJoinSplits", fn := fun _ => fun
  | [d1, d2] => { results := [.lit (.bool false)], args := [d1, d2] }
  | _ => none }
def FnExactJoinSplitsWrongFalsely : Prop := fnExactJoinSplitsRow.holds Try.pinned (OpenSpec.ofChange fnExactJoinSplitsWrong)

/-- 'laws.FnExactCountJoinTrees': WHATEVER THE INPUT: true; the input reads as it did. -/
def fnExactCountJoinTreesSpec : ChangeSpec := { name := "fnExactCountJoinTrees", fn := fun _ => fun
  | [d1, d2] => { results := [.lit (.bool true)], args := [d1, d2] }
  | _ => none }
def fnExactCountJoinTreesRow : OpenClaim := { program := "ytohkbnnamhmgeaa", sum := "4d72fe4983662d262fafa8b5255dc7272b63e2a00240bf0f417c885cdb27af88", func := "loop.example/g01921/laws.FnExactCountJoinTrees", spec := "fnExactCountJoinTrees", unfollowed := true, recurses := true, apart := false }
def FnExactCountJoinTreesSaid : Prop := fnExactCountJoinTreesRow.holds Try.pinned (OpenSpec.ofChange fnExactCountJoinTreesSpec)

/-- ITS FALSE NEIGHBOUR: 'it returns false'. Refute it at one input. -/
def fnExactCountJoinTreesWrong : ChangeSpec := { name := "fnExactCountJoinTrees", fn := fun _ => fun
  | [d1, d2] => { results := [.lit (.bool false)], args := [d1, d2] }
  | _ => none }
def FnExactCountJoinTreesWrongFalsely : Prop := fnExactCountJoinTreesRow.holds Try.pinned (OpenSpec.ofChange fnExactCountJoinTreesWrong)

/- THE SECOND FORM. 'bulk': how many values and letters a reading holds, each counted each time it is reached (what is shared counts as often as it is met; a slice's spare places count too). A statement '..UptoSaid' is the law's where the arguments, and the package variables that the reading takes, are together of bulk at most 1048576: NARROWER than '..Said'. Prove '..Said' where nothing that the law and all that it calls make is longer than what came in: it says more and counts as full. Else prove '..UptoSaid'. A law counts once. -/
mutual
def uptoBulk {H : Type} : DataW H → Nat
  | .lit (.string bytes) => bytes.length + 1
  | .lit _ => 1
  | .nil => 1
  | .ptr d => uptoBulk d + 1
  | .slice elems spare => uptoBulkAll elems + uptoBulkAll spare + 1
  | .agg parts => uptoBulkAll parts + 1
  | .iface _ d => uptoBulk d + 1
  | .map entries => uptoBulkEntries entries + 1
  | .held _ => 1
def uptoBulkAll {H : Type} : List (DataW H) → Nat
  | [] => 0
  | d :: r => uptoBulk d + uptoBulkAll r
def uptoBulkEntries {H : Type} : List (Lit × DataW H) → Nat
  | [] => 0
  | x :: r => uptoBulkEntry x + uptoBulkEntries r
def uptoBulkEntry {H : Type} : Lit × DataW H → Nat
  | (.string bytes, d) => bytes.length + uptoBulk d + 1
  | (_, d) => uptoBulk d + 1
 end
def uptoSmall : (H : Type) → List (DataW H) → Bool := fun _ ds => decide (uptoBulkAll ds ≤ 1048576)
def OpenSpec.upto (s : _root_.Go.ChangeSpec) : _root_.Go.OpenSpec := { _root_.Go.OpenSpec.ofChange s with cond := some uptoSmall }

/-- 'laws.FnQueryGraph', WHERE WHAT IT READS IS OF BULK AT MOST 1048576: true; the input reads as it did. -/
def fnQueryGraphUptoRow : OpenClaim := { program := "ytohkbnnamhmgeaa", sum := "4d72fe4983662d262fafa8b5255dc7272b63e2a00240bf0f417c885cdb27af88", func := "loop.example/g01921/laws.FnQueryGraph", spec := "fnQueryGraph", apart := false, narrowed := true }
def FnQueryGraphUptoSaid : Prop := fnQueryGraphUptoRow.holds Try.pinned (OpenSpec.upto fnQueryGraphSpec)

/-- 'laws.FnExactFullMask', WHERE WHAT IT READS IS OF BULK AT MOST 1048576: true; the input reads as it did. -/
def fnExactFullMaskUptoRow : OpenClaim := { program := "ytohkbnnamhmgeaa", sum := "4d72fe4983662d262fafa8b5255dc7272b63e2a00240bf0f417c885cdb27af88", func := "loop.example/g01921/laws.FnExactFullMask", spec := "fnExactFullMask", apart := false, narrowed := true }
def FnExactFullMaskUptoSaid : Prop := fnExactFullMaskUptoRow.holds Try.pinned (OpenSpec.upto fnExactFullMaskSpec)

/-- 'laws.FnExactMaskAtoms', WHERE WHAT IT READS IS OF BULK AT MOST 1048576: true; the input reads as it did. -/
def fnExactMaskAtomsUptoRow : OpenClaim := { program := "ytohkbnnamhmgeaa", sum := "4d72fe4983662d262fafa8b5255dc7272b63e2a00240bf0f417c885cdb27af88", func := "loop.example/g01921/laws.FnExactMaskAtoms", spec := "fnExactMaskAtoms", apart := false, narrowed := true }
def FnExactMaskAtomsUptoSaid : Prop := fnExactMaskAtomsUptoRow.holds Try.pinned (OpenSpec.upto fnExactMaskAtomsSpec)

/-- 'laws.FnExactNeighborMask', WHERE WHAT IT READS IS OF BULK AT MOST 1048576: true; the input reads as it did. -/
def fnExactNeighborMaskUptoRow : OpenClaim := { program := "ytohkbnnamhmgeaa", sum := "4d72fe4983662d262fafa8b5255dc7272b63e2a00240bf0f417c885cdb27af88", func := "loop.example/g01921/laws.FnExactNeighborMask", spec := "fnExactNeighborMask", apart := false, narrowed := true }
def FnExactNeighborMaskUptoSaid : Prop := fnExactNeighborMaskUptoRow.holds Try.pinned (OpenSpec.upto fnExactNeighborMaskSpec)

/-- 'laws.FnExactIsConnected', WHERE WHAT IT READS IS OF BULK AT MOST 1048576: true; the input reads as it did. -/
def fnExactIsConnectedUptoRow : OpenClaim := { program := "ytohkbnnamhmgeaa", sum := "4d72fe4983662d262fafa8b5255dc7272b63e2a00240bf0f417c885cdb27af88", func := "loop.example/g01921/laws.FnExactIsConnected", spec := "fnExactIsConnected", apart := false, narrowed := true }
def FnExactIsConnectedUptoSaid : Prop := fnExactIsConnectedUptoRow.holds Try.pinned (OpenSpec.upto fnExactIsConnectedSpec)

/-- 'laws.FnExactConnectedMasks', WHERE WHAT IT READS IS OF BULK AT MOST 1048576: true; the input reads as it did. -/
def fnExactConnectedMasksUptoRow : OpenClaim := { program := "ytohkbnnamhmgeaa", sum := "4d72fe4983662d262fafa8b5255dc7272b63e2a00240bf0f417c885cdb27af88", func := "loop.example/g01921/laws.FnExactConnectedMasks", spec := "fnExactConnectedMasks", apart := false, narrowed := true }
def FnExactConnectedMasksUptoSaid : Prop := fnExactConnectedMasksUptoRow.holds Try.pinned (OpenSpec.upto fnExactConnectedMasksSpec)

/-- 'laws.FnExactJoinSplits', WHERE WHAT IT READS IS OF BULK AT MOST 1048576: true; the input reads as it did. -/
def fnExactJoinSplitsUptoRow : OpenClaim := { program := "ytohkbnnamhmgeaa", sum := "4d72fe4983662d262fafa8b5255dc7272b63e2a00240bf0f417c885cdb27af88", func := "loop.example/g01921/laws.FnExactJoinSplits", spec := "fnExactJoinSplits", apart := false, narrowed := true }
def FnExactJoinSplitsUptoSaid : Prop := fnExactJoinSplitsUptoRow.holds Try.pinned (OpenSpec.upto fnExactJoinSplitsSpec)

/-- 'laws.FnExactCountJoinTrees', WHERE WHAT IT READS IS OF BULK AT MOST 1048576: true; the input reads as it did. -/
def fnExactCountJoinTreesUptoRow : OpenClaim := { program := "ytohkbnnamhmgeaa", sum := "4d72fe4983662d262fafa8b5255dc7272b63e2a00240bf0f417c885cdb27af88", func := "loop.example/g01921/laws.FnExactCountJoinTrees", spec := "fnExactCountJoinTrees", unfollowed := true, recurses := true, apart := false, narrowed := true }
def FnExactCountJoinTreesUptoSaid : Prop := fnExactCountJoinTreesUptoRow.holds Try.pinned (OpenSpec.upto fnExactCountJoinTreesSpec)

end Rows
end Go.Proofs.Ytohkbnnamhmgeaa
