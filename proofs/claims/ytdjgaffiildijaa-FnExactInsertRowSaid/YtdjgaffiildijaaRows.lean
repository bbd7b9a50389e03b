/-
  No cell of these rows narrows 'for every input' (looked for: loops, veiled, ifaces, maps, wideKeys, modest, calm, conditions, laid).
  DERIVED. THE GIVEN ROWS OF THIS SEAT. 12 by the template 'for every input the law returns true; each argument reads behind the call as it read before'; 0 by the template 'total and deterministic' (their statements: YtdjgaffiildijaaTotals.lean).
  GIVEN WITH THE SEED: the statements are not yours to turn. If you find one false, say at which input.
  Laid BY PROGRAM, IN A SANDBOX (cutbox-rows.mjs): the forced cells as the released guide's own fill.sh prints them over the translation a26a3d10c7985f5f… (all of the seat's roots in one cut). By AI agents, Wed Nov 11 2026. No macro, syntax, notation, axiom, sorry.
-/
import Derived.Test.YtdjgaffiildijaaChecked
import GoSem.Claim
import GoSem.ClaimJoined
import GoSem.ClaimMapViews
import Derived.JoinedTies
import Derived.KernelRfl
namespace Go.Proofs.Ytdjgaffiildijaa
/- THE CELL 'sum', in the pinned program and in every row, IS THE sha256 OF THE DUMP (.gsa) THAT YtdjgaffiildijaaProg.lean LOADS. Nothing in Lean hashes anything: it is a label: what it is worth is what the hold of that sum in a sandbox is worth. -/
noncomputable def Try.pinned : Pinned := { name := "ytdjgaffiildijaa", sum := "a26a3d10c7985f5f8025dea7342045b2b8ad4b4fc15850b052b6d17ab8d6d27d", checked := Try.checked }
namespace Rows
def none {H : Type} : Left H := { results := [], args := [] }

/-- 'laws.FnExactContainsRow': WHATEVER THE INPUT: true; the input reads as it did. -/
def fnExactContainsRowSpec : ChangeSpec := { name := "fnExactContainsRow", fn := fun _ => fun
  | [d1, d2] => { results := [.lit (.bool true)], args := [d1, d2] }
  | _ => none }
def fnExactContainsRowRow : OpenClaim := { program := "ytdjgaffiildijaa", sum := "a26a3d10c7985f5f8025dea7342045b2b8ad4b4fc15850b052b6d17ab8d6d27d", func := "loop.example/g01921/laws.FnExactContainsRow", spec := "fnExactContainsRow", unfollowed := true, recurses := true, apart := false }
def FnExactContainsRowSaid : Prop := fnExactContainsRowRow.holds Try.pinned (OpenSpec.ofChange fnExactContainsRowSpec)

/-- ITS FALSE NEIGHBOUR: 'it returns false'. Refute it at one input. -/
def fnExactContainsRowWrong : ChangeSpec := { name := "fnExactContainsRow", fn := fun _ => fun
  | [d1, d2] => { results := [.lit (.bool false)], args := [d1, d2] }
  | _ => none }
def FnExactContainsRowWrongFalsely : Prop := fnExactContainsRowRow.holds Try.pinned (OpenSpec.ofChange fnExactContainsRowWrong)

/-- 'laws.FnExactDeleteRow': WHATEVER THE INPUT: true; the input reads as it did. -/
def fnExactDeleteRowSpec : ChangeSpec := { name := "fnExactDeleteRow", fn := fun _ => fun
  | [d1, d2] => { results := [.lit (.bool true)], args := [d1, d2] }
  | _ => none }
def fnExactDeleteRowRow : OpenClaim := { program := "ytdjgaffiildijaa", sum := "a26a3d10c7985f5f8025dea7342045b2b8ad4b4fc15850b052b6d17ab8d6d27d", func := "loop.example/g01921/laws.FnExactDeleteRow", spec := "fnExactDeleteRow", unfollowed := true, recurses := true, apart := false }
def FnExactDeleteRowSaid : Prop := fnExactDeleteRowRow.holds Try.pinned (OpenSpec.ofChange fnExactDeleteRowSpec)

/-- ITS FALSE NEIGHBOUR: 'it returns false'. Refute it at one input. -/
def fnExactDeleteRowWrong : ChangeSpec := { name := "fnExactDeleteRow", fn := fun _ => fun
  | [d1, d2] => { results := [.lit (.bool false)], args := [d1, d2] }
  | _ => none }
def FnExactDeleteRowWrongFalsely : Prop := fnExactDeleteRowRow.holds Try.pinned (OpenSpec.ofChange fnExactDeleteRowWrong)

/-- 'laws.FnExactEqualTables': WHATEVER THE INPUT: true; the input reads as it did. -/
def fnExactEqualTablesSpec : ChangeSpec := { name := "fnExactEqualTables", fn := fun _ => fun
  | [d1, d2] => { results := [.lit (.bool true)], args := [d1, d2] }
  | _ => none }
def fnExactEqualTablesRow : OpenClaim := { program := "ytdjgaffiildijaa", sum := "a26a3d10c7985f5f8025dea7342045b2b8ad4b4fc15850b052b6d17ab8d6d27d", func := "loop.example/g01921/laws.FnExactEqualTables", spec := "fnExactEqualTables", unfollowed := true, recurses := true, apart := false }
def FnExactEqualTablesSaid : Prop := fnExactEqualTablesRow.holds Try.pinned (OpenSpec.ofChange fnExactEqualTablesSpec)

/-- ITS FALSE NEIGHBOUR: 'it returns false'. Refute it at one input. -/
def fnExactEqualTablesWrong : ChangeSpec := { name := "fnExactEqualTables", fn := fun _ => fun
  | [d1, d2] => { results := [.lit (.bool false)], args := [d1, d2] }
  | _ => none }
def FnExactEqualTablesWrongFalsely : Prop := fnExactEqualTablesRow.holds Try.pinned (OpenSpec.ofChange fnExactEqualTablesWrong)

/-- 'laws.FnExactInsertRow': WHATEVER THE INPUT: true; the input reads as it did. -/
def fnExactInsertRowSpec : ChangeSpec := { name := "fnExactInsertRow", fn := fun _ => fun
  | [d1, d2] => { results := [.lit (.bool true)], args := [d1, d2] }
  | _ => none }
def fnExactInsertRowRow : OpenClaim := { program := "ytdjgaffiildijaa", sum := "a26a3d10c7985f5f8025dea7342045b2b8ad4b4fc15850b052b6d17ab8d6d27d", func := "loop.example/g01921/laws.FnExactInsertRow", spec := "fnExactInsertRow", inPlace := ["slices.overlaps[[]int]"], unfollowed := true, recurses := true, apart := false }
def FnExactInsertRowSaid : Prop := fnExactInsertRowRow.holds Try.pinned (OpenSpec.ofChange fnExactInsertRowSpec)

/-- ITS FALSE NEIGHBOUR: 'it returns false'. Refute it at one input. -/
def fnExactInsertRowWrong : ChangeSpec := { name := "fnExactInsertRow", fn := fun _ => fun
  | [d1, d2] => { results := [.lit (.bool false)], args := [d1, d2] }
  | _ => none }
def FnExactInsertRowWrongFalsely : Prop := fnExactInsertRowRow.holds Try.pinned (OpenSpec.ofChange fnExactInsertRowWrong)

/-- 'laws.FnExactIsValidTable': WHATEVER THE INPUT: true; the input reads as it did. -/
def fnExactIsValidTableSpec : ChangeSpec := { name := "fnExactIsValidTable", fn := fun _ => fun
  | [d] => { results := [.lit (.bool true)], args := [d] }
  | _ => none }
def fnExactIsValidTableRow : OpenClaim := { program := "ytdjgaffiildijaa", sum := "a26a3d10c7985f5f8025dea7342045b2b8ad4b4fc15850b052b6d17ab8d6d27d", func := "loop.example/g01921/laws.FnExactIsValidTable", spec := "fnExactIsValidTable", unfollowed := true, recurses := true, apart := false }
def FnExactIsValidTableSaid : Prop := fnExactIsValidTableRow.holds Try.pinned (OpenSpec.ofChange fnExactIsValidTableSpec)

/-- ITS FALSE NEIGHBOUR: 'it returns false'. Refute it at one input. -/
def fnExactIsValidTableWrong : ChangeSpec := { name := "fnExactIsValidTable", fn := fun _ => fun
  | [d] => { results := [.lit (.bool false)], args := [d] }
  | _ => none }
def FnExactIsValidTableWrongFalsely : Prop := fnExactIsValidTableRow.holds Try.pinned (OpenSpec.ofChange fnExactIsValidTableWrong)

/-- 'laws.FnExactNewTable': WHATEVER THE INPUT: true; the input reads as it did. -/
def fnExactNewTableSpec : ChangeSpec := { name := "fnExactNewTable", fn := fun _ => fun
  | [d1, d2, d3] => { results := [.lit (.bool true)], args := [d1, d2, d3] }
  | _ => none }
def fnExactNewTableRow : OpenClaim := { program := "ytdjgaffiildijaa", sum := "a26a3d10c7985f5f8025dea7342045b2b8ad4b4fc15850b052b6d17ab8d6d27d", func := "loop.example/g01921/laws.FnExactNewTable", spec := "fnExactNewTable", unfollowed := true, recurses := true, apart := false }
def FnExactNewTableSaid : Prop := fnExactNewTableRow.holds Try.pinned (OpenSpec.ofChange fnExactNewTableSpec)

/-- ITS FALSE NEIGHBOUR: 'it returns false'. Refute it at one input. -/
def fnExactNewTableWrong : ChangeSpec := { name := "fnExactNewTable", fn := fun _ => fun
  | [d1, d2, d3] => { results := [.lit (.bool false)], args := [d1, d2, d3] }
  | _ => none }
def FnExactNewTableWrongFalsely : Prop := fnExactNewTableRow.holds Try.pinned (OpenSpec.ofChange fnExactNewTableWrong)

/-- 'laws.FnExactCountRows': WHATEVER THE INPUT: true; the input reads as it did. -/
def fnExactCountRowsSpec : ChangeSpec := { name := "fnExactCountRows", fn := fun _ => fun
  | [d] => { results := [.lit (.bool true)], args := [d] }
  | _ => none }
def fnExactCountRowsRow : OpenClaim := { program := "ytdjgaffiildijaa", sum := "a26a3d10c7985f5f8025dea7342045b2b8ad4b4fc15850b052b6d17ab8d6d27d", func := "loop.example/g01921/laws.FnExactCountRows", spec := "fnExactCountRows", unfollowed := true, recurses := true, apart := false }
def FnExactCountRowsSaid : Prop := fnExactCountRowsRow.holds Try.pinned (OpenSpec.ofChange fnExactCountRowsSpec)

/-- ITS FALSE NEIGHBOUR: 'it returns false'. Refute it at one input. -/
def fnExactCountRowsWrong : ChangeSpec := { name := "fnExactCountRows", fn := fun _ => fun
  | [d] => { results := [.lit (.bool false)], args := [d] }
  | _ => none }
def FnExactCountRowsWrongFalsely : Prop := fnExactCountRowsRow.holds Try.pinned (OpenSpec.ofChange fnExactCountRowsWrong)

/-- 'laws.FnExactEqualDatabases': WHATEVER THE INPUT: true; the input reads as it did. -/
def fnExactEqualDatabasesSpec : ChangeSpec := { name := "fnExactEqualDatabases", fn := fun _ => fun
  | [d1, d2] => { results := [.lit (.bool true)], args := [d1, d2] }
  | _ => none }
def fnExactEqualDatabasesRow : OpenClaim := { program := "ytdjgaffiildijaa", sum := "a26a3d10c7985f5f8025dea7342045b2b8ad4b4fc15850b052b6d17ab8d6d27d", func := "loop.example/g01921/laws.FnExactEqualDatabases", spec := "fnExactEqualDatabases", unfollowed := true, recurses := true, apart := false }
def FnExactEqualDatabasesSaid : Prop := fnExactEqualDatabasesRow.holds Try.pinned (OpenSpec.ofChange fnExactEqualDatabasesSpec)

/-- ITS FALSE NEIGHBOUR: 'it returns false'. Refute it at one input. -/
def fnExactEqualDatabasesWrong : ChangeSpec := { name := "fnExactEqualDatabases", fn := fun _ => fun
  | [d1, d2] => { results := [.lit (.bool false)], args := [d1, d2] }
  | _ => none }
def FnExactEqualDatabasesWrongFalsely : Prop := fnExactEqualDatabasesRow.holds Try.pinned (OpenSpec.ofChange fnExactEqualDatabasesWrong)

/-- 'laws.FnExactIsValidDatabase': WHATEVER THE INPUT: true; the input reads as it did. -/
def fnExactIsValidDatabaseSpec : ChangeSpec := { name := "fnExactIsValidDatabase", fn := fun _ => fun
  | [d] => { results := [.lit (.bool true)], args := [d] }
  | _ => none }
def fnExactIsValidDatabaseRow : OpenClaim := { program := "ytdjgaffiildijaa", sum := "a26a3d10c7985f5f8025dea7342045b2b8ad4b4fc15850b052b6d17ab8d6d27d", func := "loop.example/g01921/laws.FnExactIsValidDatabase", spec := "fnExactIsValidDatabase", unfollowed := true, recurses := true, apart := false }
def FnExactIsValidDatabaseSaid : Prop := fnExactIsValidDatabaseRow.holds Try.pinned (OpenSpec.ofChange fnExactIsValidDatabaseSpec)

/-- ITS FALSE NEIGHBOUR: 'it returns false'. Refute it at one input. -/
def fnExactIsValidDatabaseWrong : ChangeSpec := { name := "fnExactIsValidDatabase", fn := fun _ => fun
  | [d] => { results := [.lit (.bool false)], args := [d] }
  | _ => none }
def FnExactIsValidDatabaseWrongFalsely : Prop := fnExactIsValidDatabaseRow.holds Try.pinned (OpenSpec.ofChange fnExactIsValidDatabaseWrong)

/-- 'laws.FnExactLookupTable': WHATEVER THE INPUT: true; the input reads as it did. -/
def fnExactLookupTableSpec : ChangeSpec := { name := "fnExactLookupTable", fn := fun _ => fun
  | [d1, d2] => { results := [.lit (.bool true)], args := [d1, d2] }
  | _ => none }
def fnExactLookupTableRow : OpenClaim := { program := "ytdjgaffiildijaa", sum := "a26a3d10c7985f5f8025dea7342045b2b8ad4b4fc15850b052b6d17ab8d6d27d", func := "loop.example/g01921/laws.FnExactLookupTable", spec := "fnExactLookupTable", unfollowed := true, recurses := true, apart := false }
def FnExactLookupTableSaid : Prop := fnExactLookupTableRow.holds Try.pinned (OpenSpec.ofChange fnExactLookupTableSpec)

/-- ITS FALSE NEIGHBOUR: 'it returns false'. Refute it at one input. -/
def fnExactLookupTableWrong : ChangeSpec := { name := "fnExactLookupTable", fn := fun _ => fun
  | [d1, d2] => { results := [.lit (.bool false)], args := [d1, d2] }
  | _ => none }
def FnExactLookupTableWrongFalsely : Prop := fnExactLookupTableRow.holds Try.pinned (OpenSpec.ofChange fnExactLookupTableWrong)

/-- 'laws.FnExactRemoveTable': WHATEVER THE INPUT: true; the input reads as it did. -/
def fnExactRemoveTableSpec : ChangeSpec := { name := "fnExactRemoveTable", fn := fun _ => fun
  | [d1, d2] => { results := [.lit (.bool true)], args := [d1, d2] }
  | _ => none }
def fnExactRemoveTableRow : OpenClaim := { program := "ytdjgaffiildijaa", sum := "a26a3d10c7985f5f8025dea7342045b2b8ad4b4fc15850b052b6d17ab8d6d27d", func := "loop.example/g01921/laws.FnExactRemoveTable", spec := "fnExactRemoveTable", unfollowed := true, recurses := true, apart := false }
def FnExactRemoveTableSaid : Prop := fnExactRemoveTableRow.holds Try.pinned (OpenSpec.ofChange fnExactRemoveTableSpec)

/-- ITS FALSE NEIGHBOUR: 'it returns false'. Refute it at one input. -/
def fnExactRemoveTableWrong : ChangeSpec := { name := "fnExactRemoveTable", fn := fun _ => fun
  | [d1, d2] => { results := [.lit (.bool false)], args := [d1, d2] }
  | _ => none }
def FnExactRemoveTableWrongFalsely : Prop := fnExactRemoveTableRow.holds Try.pinned (OpenSpec.ofChange fnExactRemoveTableWrong)

/-- 'laws.FnExactSetTable': WHATEVER THE INPUT: true; the input reads as it did. -/
def fnExactSetTableSpec : ChangeSpec := { name := "fnExactSetTable", fn := fun _ => fun
  | [d1, d2] => { results := [.lit (.bool true)], args := [d1, d2] }
  | _ => none }
def fnExactSetTableRow : OpenClaim := { program := "ytdjgaffiildijaa", sum := "a26a3d10c7985f5f8025dea7342045b2b8ad4b4fc15850b052b6d17ab8d6d27d", func := "loop.example/g01921/laws.FnExactSetTable", spec := "fnExactSetTable", unfollowed := true, recurses := true, apart := false }
def FnExactSetTableSaid : Prop := fnExactSetTableRow.holds Try.pinned (OpenSpec.ofChange fnExactSetTableSpec)

/-- ITS FALSE NEIGHBOUR: 'it returns false'. Refute it at one input. -/
def fnExactSetTableWrong : ChangeSpec := { name := "fnExactSetTable", fn := fun _ => fun
  | [d1, d2] => { results := [.lit (.bool false)], args := [d1, d2] }
  | _ => none }
def FnExactSetTableWrongFalsely : Prop := fnExactSetTableRow.holds Try.pinned (OpenSpec.ofChange fnExactSetTableWrong)

/- THE SECOND FORM. 'bulk': how many values and letters a reading holds, each counted each time it is reached (what is shared counts as often as it is met; a slice's spare places count too). A statement '..UptoSaid' is the law's where the arguments, and the package variables that the reading takes, are together of bulk at most 1048576: NARROWER than '..Said'. Prove '..Said' where nothing that the law and all that it calls make is longer than what came in: it says more and counts as full. Else prove '..UptoSaid'. A law counts once. -/
mutual
def uptoBulk {H : Type} : DataW H → Nat
  | .lit (.string bytes) => bytes.length + 1
  | .lit _ => 1
  | .nil => 1
  | .ptr d => uptoBulk d + 1
  | .slice elems spare => uptoBulkAll elems + uptoBulkAll spare + 1
  | .agg parts => uptoBulkAll parts + 1
  | .iface _ d => uptoBulk d + 1
  | .map entries => uptoBulkEntries entries + 1
  | .held _ => 1
def uptoBulkAll {H : Type} : List (DataW H) → Nat
  | [] => 0
  | d :: r => uptoBulk d + uptoBulkAll r
def uptoBulkEntries {H : Type} : List (Lit × DataW H) → Nat
  | [] => 0
  | x :: r => uptoBulkEntry x + uptoBulkEntries r
def uptoBulkEntry {H : Type} : Lit × DataW H → Nat
  | (.string bytes, d) => bytes.length + uptoBulk d + 1
  | (_, d) => uptoBulk d + 1
 end
def uptoSmall : (H : Type) → List (DataW H) → Bool := fun _ ds => decide (uptoBulkAll ds ≤ 1048576)
def OpenSpec.upto (s : _root_.Go.ChangeSpec) : _root_.Go.OpenSpec := { _root_.Go.OpenSpec.ofChange s with cond := some uptoSmall }

/-- 'laws.FnExactContainsRow', WHERE WHAT IT READS IS OF BULK AT MOST 1048576: true; the input reads as it did. -/
def fnExactContainsRowUptoRow : OpenClaim := { program := "ytdjgaffiildijaa", sum := "a26a3d10c7985f5f8025dea7342045b2b8ad4b4fc15850b052b6d17ab8d6d27d", func := "loop.example/g01921/laws.FnExactContainsRow", spec := "fnExactContainsRow", unfollowed := true, recurses := true, apart := false, narrowed := true }
def FnExactContainsRowUptoSaid : Prop := fnExactContainsRowUptoRow.holds Try.pinned (OpenSpec.upto fnExactContainsRowSpec)

/-- 'laws.FnExactDeleteRow', WHERE WHAT IT READS IS OF BULK AT MOST 1048576: true; the input reads as it did. -/
def fnExactDeleteRowUptoRow : OpenClaim := { program := "ytdjgaffiildijaa", sum := "a26a3d10c7985f5f8025dea7342045b2b8ad4b4fc15850b052b6d17ab8d6d27d", func := "loop.example/g01921/laws.FnExactDeleteRow", spec := "fnExactDeleteRow", unfollowed := true, recurses := true, apart := false, narrowed := true }
def FnExactDeleteRowUptoSaid : Prop := fnExactDeleteRowUptoRow.holds Try.pinned (OpenSpec.upto fnExactDeleteRowSpec)

/-- 'laws.FnExactEqualTables', WHERE WHAT IT READS IS OF BULK AT MOST 1048576: true; the input reads as it did. -/
def fnExactEqualTablesUptoRow : OpenClaim := { program := "ytdjgaffiildijaa", sum := "a26a3d10c7985f5f8025dea7342045b2b8ad4b4fc15850b052b6d17ab8d6d27d", func := "loop.example/g01921/laws.FnExactEqualTables", spec := "fnExactEqualTables", unfollowed := true, recurses := true, apart := false, narrowed := true }
def FnExactEqualTablesUptoSaid : Prop := fnExactEqualTablesUptoRow.holds Try.pinned (OpenSpec.upto fnExactEqualTablesSpec)

/-- 'laws.FnExactInsertRow', WHERE WHAT IT READS IS OF BULK AT MOST 1048576: true; the input reads as it did. -/
def fnExactInsertRowUptoRow : OpenClaim := { program := "ytdjgaffiildijaa", sum := "a26a3d10c7985f5f8025dea7342045b2b8ad4b4fc15850b052b6d17ab8d6d27d", func := "loop.example/g01921/laws.FnExactInsertRow", spec := "fnExactInsertRow", inPlace := ["slices.overlaps[[]int]"], unfollowed := true, recurses := true, apart := false, narrowed := true }
def FnExactInsertRowUptoSaid : Prop := fnExactInsertRowUptoRow.holds Try.pinned (OpenSpec.upto fnExactInsertRowSpec)

/-- 'laws.FnExactIsValidTable', WHERE WHAT IT READS IS OF BULK AT MOST 1048576: true; the input reads as it did. -/
def fnExactIsValidTableUptoRow : OpenClaim := { program := "ytdjgaffiildijaa", sum := "a26a3d10c7985f5f8025dea7342045b2b8ad4b4fc15850b052b6d17ab8d6d27d", func := "loop.example/g01921/laws.FnExactIsValidTable", spec := "fnExactIsValidTable", unfollowed := true, recurses := true, apart := false, narrowed := true }
def FnExactIsValidTableUptoSaid : Prop := fnExactIsValidTableUptoRow.holds Try.pinned (OpenSpec.upto fnExactIsValidTableSpec)

/-- 'laws.FnExactNewTable', WHERE WHAT IT READS IS OF BULK AT MOST 1048576: true; the input reads as it did. -/
def fnExactNewTableUptoRow : OpenClaim := { program := "ytdjgaffiildijaa", sum := "a26a3d10c7985f5f8025dea7342045b2b8ad4b4fc15850b052b6d17ab8d6d27d", func := "loop.example/g01921/laws.FnExactNewTable", spec := "fnExactNewTable", unfollowed := true, recurses := true, apart := false, narrowed := true }
def FnExactNewTableUptoSaid : Prop := fnExactNewTableUptoRow.holds Try.pinned (OpenSpec.upto fnExactNewTableSpec)

/-- 'laws.FnExactCountRows', WHERE WHAT IT READS IS OF BULK AT MOST 1048576: true; the input reads as it did. -/
def fnExactCountRowsUptoRow : OpenClaim := { program := "ytdjgaffiildijaa", sum := "a26a3d10c7985f5f8025dea7342045b2b8ad4b4fc15850b052b6d17ab8d6d27d", func := "loop.example/g01921/laws.FnExactCountRows", spec := "fnExactCountRows", unfollowed := true, recurses := true, apart := false, narrowed := true }
def FnExactCountRowsUptoSaid : Prop := fnExactCountRowsUptoRow.holds Try.pinned (OpenSpec.upto fnExactCountRowsSpec)

/-- 'laws.FnExactEqualDatabases', WHERE WHAT IT READS IS OF BULK AT MOST 1048576: true; the input reads as it did. -/
def fnExactEqualDatabasesUptoRow : OpenClaim := { program := "ytdjgaffiildijaa", sum := "a26a3d10c7985f5f8025dea7342045b2b8ad4b4fc15850b052b6d17ab8d6d27d", func := "loop.example/g01921/laws.FnExactEqualDatabases", spec := "fnExactEqualDatabases", unfollowed := true, recurses := true, apart := false, narrowed := true }
def FnExactEqualDatabasesUptoSaid : Prop := fnExactEqualDatabasesUptoRow.holds Try.pinned (OpenSpec.upto fnExactEqualDatabasesSpec)

/-- 'laws.FnExactIsValidDatabase', WHERE WHAT IT READS IS OF BULK AT MOST 1048576: true; the input reads as it did. -/
def fnExactIsValidDatabaseUptoRow : OpenClaim := { program := "ytdjgaffiildijaa", sum := "a26a3d10c7985f5f8025dea7342045b2b8ad4b4fc15850b052b6d17ab8d6d27d", func := "loop.example/g01921/laws.FnExactIsValidDatabase", spec := "fnExactIsValidDatabase", unfollowed := true, recurses := true, apart := false, narrowed := true }
def FnExactIsValidDatabaseUptoSaid : Prop := fnExactIsValidDatabaseUptoRow.holds Try.pinned (OpenSpec.upto fnExactIsValidDatabaseSpec)

/-- 'laws.FnExactLookupTable', WHERE WHAT IT READS IS OF BULK AT MOST 1048576: true; the input reads as it did. -/
def fnExactLookupTableUptoRow : OpenClaim := { program := "ytdjgaffiildijaa", sum := "a26a3d10c7985f5f8025dea7342045b2b8ad4b4fc15850b052b6d17ab8d6d27d", func := "loop.example/g01921/laws.FnExactLookupTable", spec := "fnExactLookupTable", unfollowed := true, recurses := true, apart := false, narrowed := true }
def FnExactLookupTableUptoSaid : Prop := fnExactLookupTableUptoRow.holds Try.pinned (OpenSpec.upto fnExactLookupTableSpec)

/-- 'laws.FnExactRemoveTable', WHERE WHAT IT READS IS OF BULK AT MOST 1048576: true; the input reads as it did. -/
def fnExactRemoveTableUptoRow : OpenClaim := { program := "ytdjgaffiildijaa", sum := "a26a3d10c7985f5f8025dea7342045b2b8ad4b4fc15850b052b6d17ab8d6d27d", func := "loop.example/g01921/laws.FnExactRemoveTable", spec := "fnExactRemoveTable", unfollowed := true, recurses := true, apart := false, narrowed := true }
def FnExactRemoveTableUptoSaid : Prop := fnExactRemoveTableUptoRow.holds Try.pinned (OpenSpec.upto fnExactRemoveTableSpec)

/-- 'laws.FnExactSetTable', WHERE WHAT IT READS IS OF BULK AT MOST 1048576: true; the input reads as it did. -/
def fnExactSetTableUptoRow : OpenClaim := { program := "ytdjgaffiildijaa", sum := "a26a3d10c7985f5f8025dea7342045b2b8ad4b4fc15850b052b6d17ab8d6d27d", func := "loop.example/g01921/laws.FnExactSetTable", spec := "fnExactSetTable", unfollowed := true, recurses := true, apart := false, narrowed := true }
def FnExactSetTableUptoSaid : Prop := fnExactSetTableUptoRow.holds Try.pinned (OpenSpec.upto fnExactSetTableSpec)

end Rows
end Go.Proofs.Ytdjgaffiildijaa
