/-
  No cell of these rows narrows 'for every input' (looked for: loops, veiled, ifaces, maps, wideKeys, modest, calm, conditions, laid).
  DERIVED. THE GIVEN ROWS OF THIS SEAT. 11 by the template 'for every input the law returns true; each argument reads behind the call as it read before'; 0 by the template 'total and deterministic' (their statements: YthageciihhpmoaaTotals.lean).
  GIVEN WITH THE SEED: the statements are not yours to turn. If you find one false, say at which input.
  Laid BY PROGRAM, IN A SANDBOX (cutbox-rows.mjs): the forced cells as the released guide's own fill.sh prints them over the translation de519bdb44abb1b4… (all of the seat's roots in one cut). By AI agents, Wed Nov 11 2026. No macro, syntax, notation, axiom, sorry.
-/
import Derived.Test.YthageciihhpmoaaChecked
import GoSem.Claim
import GoSem.ClaimJoined
import GoSem.ClaimMapViews
import Derived.JoinedTies
import Derived.KernelRfl
namespace Go.Proofs.Ythageciihhpmoaa
/- THE CELL 'sum', in the pinned program and in every row, IS THE sha256 OF THE DUMP (.gsa) THAT YthageciihhpmoaaProg.lean LOADS. Nothing in Lean hashes anything: it is a label: what it is worth is what the hold of that sum in a sandbox is worth. -/
noncomputable def Try.pinned : Pinned := { name := "ythageciihhpmoaa", sum := "de519bdb44abb1b4392a7b4054664482d59b2aff61aa05525a54a7326ab2c8f3", checked := Try.checked }
namespace Rows
def none {H : Type} : Left H := { results := [], args := [] }

/-- 'laws.FnExactCompareRows': WHATEVER THE INPUT: true; the input reads as it did. -/
def fnExactCompareRowsSpec : ChangeSpec := { name := "fnExactCompareRows", fn := fun _ => fun
  | [d1, d2] => { results := [.lit (.bool true)], args := [d1, d2] }
  | _ => none }
def fnExactCompareRowsRow : OpenClaim := { program := "ythageciihhpmoaa", sum := "de519bdb44abb1b4392a7b4054664482d59b2aff61aa05525a54a7326ab2c8f3", func := "loop.example/g01921/laws.FnExactCompareRows", spec := "fnExactCompareRows", apart := false }
def FnExactCompareRowsSaid : Prop := fnExactCompareRowsRow.holds Try.pinned (OpenSpec.ofChange fnExactCompareRowsSpec)

/-- ITS FALSE NEIGHBOUR: 'it returns false'. Refute it at one input. -/
def fnExactCompareRowsWrong : ChangeSpec := { name := "fnExactCompareRows", fn := fun _ => fun
  | [d1, d2] => { results := [.lit (.bool false)], args := [d1, d2] }
  | _ => none }
def FnExactCompareRowsWrongFalsely : Prop := fnExactCompareRowsRow.holds Try.pinned (OpenSpec.ofChange fnExactCompareRowsWrong)

/-- 'laws.FnExactIsValidTable': WHATEVER THE INPUT: true; the input reads as it did. -/
def fnExactIsValidTableSpec : ChangeSpec := { name := "fnExactIsValidTable", fn := fun _ => fun
  | [d] => { results := [.lit (.bool true)], args := [d] }
  | _ => none }
def fnExactIsValidTableRow : OpenClaim := { program := "ythageciihhpmoaa", sum := "de519bdb44abb1b4392a7b4054664482d59b2aff61aa05525a54a7326ab2c8f3", func := "loop.example/g01921/laws.FnExactIsValidTable", spec := "fnExactIsValidTable", unfollowed := true, recurses := true, apart := false }
def FnExactIsValidTableSaid : Prop := fnExactIsValidTableRow.holds Try.pinned (OpenSpec.ofChange fnExactIsValidTableSpec)

/-- ITS FALSE NEIGHBOUR: 'it returns false'. Refute it at one input. -/
def fnExactIsValidTableWrong : ChangeSpec := { name := "fnExactIsValidTable", fn := fun _ => fun
  | [d] => { results := [.lit (.bool false)], args := [d] }
  | _ => none }
def FnExactIsValidTableWrongFalsely : Prop := fnExactIsValidTableRow.holds Try.pinned (OpenSpec.ofChange fnExactIsValidTableWrong)

/-- 'laws.FnExactNewTable': WHATEVER THE INPUT: true; the input reads as it did. -/
def fnExactNewTableSpec : ChangeSpec := { name := "fnExactNewTable", fn := fun _ => fun
  | [d1, d2, d3] => { results := [.lit (.bool true)], args := [d1, d2, d3] }
  | _ => none }
def fnExactNewTableRow : OpenClaim := { program := "ythageciihhpmoaa", sum := "de519bdb44abb1b4392a7b4054664482d59b2aff61aa05525a54a7326ab2c8f3", func := "loop.example/g01921/laws.FnExactNewTable", spec := "fnExactNewTable", unfollowed := true, recurses := true, apart := false }
def FnExactNewTableSaid : Prop := fnExactNewTableRow.holds Try.pinned (OpenSpec.ofChange fnExactNewTableSpec)

/-- ITS FALSE NEIGHBOUR: 'it returns false'. Refute it at one input. -/
def fnExactNewTableWrong : ChangeSpec := { name := "fnExactNewTable", fn := fun _ => fun
  | [d1, d2, d3] => { results := [.lit (.bool false)], args := [d1, d2, d3] }
  | _ => none }
def FnExactNewTableWrongFalsely : Prop := fnExactNewTableRow.holds Try.pinned (OpenSpec.ofChange fnExactNewTableWrong)

/-- 'laws.FnExactContainsRow': WHATEVER THE INPUT: true; the input reads as it did. -/
def fnExactContainsRowSpec : ChangeSpec := { name := "fnExactContainsRow", fn := fun _ => fun
  | [d1, d2] => { results := [.lit (.bool true)], args := [d1, d2] }
  | _ => none }
def fnExactContainsRowRow : OpenClaim := { program := "ythageciihhpmoaa", sum := "de519bdb44abb1b4392a7b4054664482d59b2aff61aa05525a54a7326ab2c8f3", func := "loop.example/g01921/laws.FnExactContainsRow", spec := "fnExactContainsRow", unfollowed := true, recurses := true, apart := false }
def FnExactContainsRowSaid : Prop := fnExactContainsRowRow.holds Try.pinned (OpenSpec.ofChange fnExactContainsRowSpec)

/-- ITS FALSE NEIGHBOUR: 'it returns false'. Refute it at one input. -/
def fnExactContainsRowWrong : ChangeSpec := { name := "fnExactContainsRow", fn := fun _ => fun
  | [d1, d2] => { results := [.lit (.bool false)], args := [d1, d2] }
  | _ => none }
def FnExactContainsRowWrongFalsely : Prop := fnExactContainsRowRow.holds Try.pinned (OpenSpec.ofChange fnExactContainsRowWrong)

/-- 'laws.FnExactInsertRow': WHATEVER THE INPUT: true; the input reads as it did. -/
def fnExactInsertRowSpec : ChangeSpec := { name := "fnExactInsertRow", fn := fun _ => fun
  | [d1, d2] => { results := [.lit (.bool true)], args := [d1, d2] }
  | _ => none }
def fnExactInsertRowRow : OpenClaim := { program := "ythageciihhpmoaa", sum := "de519bdb44abb1b4392a7b4054664482d59b2aff61aa05525a54a7326ab2c8f3", func := "loop.example/g01921/laws.FnExactInsertRow", spec := "fnExactInsertRow", inPlace := ["slices.overlaps[[]int]"], unfollowed := true, recurses := true, apart := false }
def FnExactInsertRowSaid : Prop := fnExactInsertRowRow.holds Try.pinned (OpenSpec.ofChange fnExactInsertRowSpec)

/-- ITS FALSE NEIGHBOUR: 'it returns false'. Refute it at one input. -/
def fnExactInsertRowWrong : ChangeSpec := { name := "fnExactInsertRow", fn := fun _ => fun
  | [d1, d2] => { results := [.lit (.bool false)], args := [d1, d2] }
  | _ => none }
def FnExactInsertRowWrongFalsely : Prop := fnExactInsertRowRow.holds Try.pinned (OpenSpec.ofChange fnExactInsertRowWrong)

/-- 'laws.FnExactDeleteRow': WHATEVER THE INPUT: true; the input reads as it did. -/
def fnExactDeleteRowSpec : ChangeSpec := { name := "fnExactDeleteRow", fn := fun _ => fun
  | [d1, d2] => { results := [.lit (.bool true)], args := [d1, d2] }
  | _ => none }
def fnExactDeleteRowRow : OpenClaim := { program := "ythageciihhpmoaa", sum := "de519bdb44abb1b4392a7b4054664482d59b2aff61aa05525a54a7326ab2c8f3", func := "loop.example/g01921/laws.FnExactDeleteRow", spec := "fnExactDeleteRow", unfollowed := true, recurses := true, apart := false }
def FnExactDeleteRowSaid : Prop := fnExactDeleteRowRow.holds Try.pinned (OpenSpec.ofChange fnExactDeleteRowSpec)

/-- ITS FALSE NEIGHBOUR: 'it returns false'. Refute it at one input. -/
def fnExactDeleteRowWrong : ChangeSpec := { name := "fnExactDeleteRow", fn := fun _ => fun
  | [d1, d2] => { results := [.lit (.bool false)], args := [d1, d2] }
  | _ => none }
def FnExactDeleteRowWrongFalsely : Prop := fnExactDeleteRowRow.holds Try.pinned (OpenSpec.ofChange fnExactDeleteRowWrong)

/-- 'laws.FnExactEqualTables': WHATEVER THE INPUT: true; the input reads as it did. -/
def fnExactEqualTablesSpec : ChangeSpec := { name := "fnExactEqualTables", fn := fun _ => fun
  | [d1, d2] => { results := [.lit (.bool true)], args := [d1, d2] }
  | _ => none }
def fnExactEqualTablesRow : OpenClaim := { program := "ythageciihhpmoaa", sum := "de519bdb44abb1b4392a7b4054664482d59b2aff61aa05525a54a7326ab2c8f3", func := "loop.example/g01921/laws.FnExactEqualTables", spec := "fnExactEqualTables", unfollowed := true, recurses := true, apart := false }
def FnExactEqualTablesSaid : Prop := fnExactEqualTablesRow.holds Try.pinned (OpenSpec.ofChange fnExactEqualTablesSpec)

/-- ITS FALSE NEIGHBOUR: 'it returns false'. Refute it at one input. -/
def fnExactEqualTablesWrong : ChangeSpec := { name := "fnExactEqualTables", fn := fun _ => fun
  | [d1, d2] => { results := [.lit (.bool false)], args := [d1, d2] }
  | _ => none }
def FnExactEqualTablesWrongFalsely : Prop := fnExactEqualTablesRow.holds Try.pinned (OpenSpec.ofChange fnExactEqualTablesWrong)

/-- 'laws.FnExactSelectColumns': WHATEVER THE INPUT: true; the input reads as it did. -/
def fnExactSelectColumnsSpec : ChangeSpec := { name := "fnExactSelectColumns", fn := fun _ => fun
  | [d1, d2] => { results := [.lit (.bool true)], args := [d1, d2] }
  | _ => none }
def fnExactSelectColumnsRow : OpenClaim := { program := "ythageciihhpmoaa", sum := "de519bdb44abb1b4392a7b4054664482d59b2aff61aa05525a54a7326ab2c8f3", func := "loop.example/g01921/laws.FnExactSelectColumns", spec := "fnExactSelectColumns", apart := false }
def FnExactSelectColumnsSaid : Prop := fnExactSelectColumnsRow.holds Try.pinned (OpenSpec.ofChange fnExactSelectColumnsSpec)

/-- ITS FALSE NEIGHBOUR: 'it returns false'. Refute it at one input. -/
def fnExactSelectColumnsWrong : ChangeSpec := { name := "fnExactSelectColumns", fn := fun _ => fun
  | [d1, d2] => { results := [.lit (.bool false)], args := [d1, d2] }
  | _ => none }
def FnExactSelectColumnsWrongFalsely : Prop := fnExactSelectColumnsRow.holds Try.pinned (OpenSpec.ofChange fnExactSelectColumnsWrong)

/-- 'laws.FnClasses': WHATEVER THE INPUT: true; the input reads as it did. -/
def fnClassesSpec : ChangeSpec := { name := "fnClasses", fn := fun _ => fun
  | [d] => { results := [.lit (.bool true)], args := [d] }
  | _ => none }
def fnClassesRow : OpenClaim := { program := "ythageciihhpmoaa", sum := "de519bdb44abb1b4392a7b4054664482d59b2aff61aa05525a54a7326ab2c8f3", func := "loop.example/g01921/laws.FnClasses", spec := "fnClasses", unfollowed := true, recurses := true, apart := false }
def FnClassesSaid : Prop := fnClassesRow.holds Try.pinned (OpenSpec.ofChange fnClassesSpec)

/-- ITS FALSE NEIGHBOUR: 'it returns false'. Refute it at one input. -/
def fnClassesWrong : ChangeSpec := { name := "fnClasses", fn := fun _ => fun
  | [d] => { results := [.lit (.bool false)], args := [d] }
  | _ => none }
def FnClassesWrongFalsely : Prop := fnClassesRow.holds Try.pinned (OpenSpec.ofChange fnClassesWrong)

/-- 'laws.FnExactFormatLocation': WHATEVER THE INPUT: true; the input reads as it did. -/
def fnExactFormatLocationSpec : ChangeSpec := { name := "fnExactFormatLocation", fn := fun _ => fun
  | [d] => { results := [.lit (.bool true)], args := [d] }
  | _ => none }
def fnExactFormatLocationRow : OpenClaim := { program := "ythageciihhpmoaa", sum := "de519bdb44abb1b4392a7b4054664482d59b2aff61aa05525a54a7326ab2c8f3", func := "loop.example/g01921/laws.FnExactFormatLocation", spec := "fnExactFormatLocation", unfollowed := true, recurses := true, apart := false }
def FnExactFormatLocationSaid : Prop := fnExactFormatLocationRow.holds Try.pinned (OpenSpec.ofChange fnExactFormatLocationSpec)

/-- ITS FALSE NEIGHBOUR: 'it returns false'. Refute it at one input. -/
def fnExactFormatLocationWrong : ChangeSpec := { name := "fnExactFormatLocation", fn := fun _ => fun
  | [d] => { results := [.lit (.bool false)], args := [d] }
  | _ => none }
def FnExactFormatLocationWrongFalsely : Prop := fnExactFormatLocationRow.holds Try.pinned (OpenSpec.ofChange fnExactFormatLocationWrong)

/-- 'laws.FnExactParseLocation': WHATEVER THE INPUT: true; the input reads as it did. -/
def fnExactParseLocationSpec : ChangeSpec := { name := "fnExactParseLocation", fn := fun _ => fun
  | [d] => { results := [.lit (.bool true)], args := [d] }
  | _ => none }
def fnExactParseLocationRow : OpenClaim := { program := "ythageciihhpmoaa", sum := "de519bdb44abb1b4392a7b4054664482d59b2aff61aa05525a54a7326ab2c8f3", func := "loop.example/g01921/laws.FnExactParseLocation", spec := "fnExactParseLocation", unfollowed := true, recurses := true, apart := false }
def FnExactParseLocationSaid : Prop := fnExactParseLocationRow.holds Try.pinned (OpenSpec.ofChange fnExactParseLocationSpec)

/-- ITS FALSE NEIGHBOUR: 'it returns false'. Refute it at one input. -/
def fnExactParseLocationWrong : ChangeSpec := { name := "fnExactParseLocation", fn := fun _ => fun
  | [d] => { results := [.lit (.bool false)], args := [d] }
  | _ => none }
def FnExactParseLocationWrongFalsely : Prop := fnExactParseLocationRow.holds Try.pinned (OpenSpec.ofChange fnExactParseLocationWrong)

/- THE SECOND FORM. 'bulk': how many values and letters a reading holds, each counted each time it is reached (what is shared counts as often as it is met; a slice's spare places count too). A statement '..UptoSaid' is the law's where the arguments, and the package variables that the reading takes, are together of bulk at most 1048576: NARROWER than '..Said'. Prove '..Said' where nothing that the law and all that it calls make is longer than what came in: it says more and counts as full. Else prove '..UptoSaid'. A law counts once. -/
mutual
def uptoBulk {H : Type} : DataW H → Nat
  | .lit (.string bytes) => bytes.length + 1
  | .lit _ => 1
  | .nil => 1
  | .ptr d => uptoBulk d + 1
  | .slice elems spare => uptoBulkAll elems + uptoBulkAll spare + 1
  | .agg parts => uptoBulkAll parts + 1
  | .iface _ d => uptoBulk d + 1
  | .map entries => uptoBulkEntries entries + 1
  | .held _ => 1
def uptoBulkAll {H : Type} : List (DataW H) → Nat
  | [] => 0
  | d :: r => uptoBulk d + uptoBulkAll r
def uptoBulkEntries {H : Type} : List (Lit × DataW H) → Nat
  | [] => 0
  | x :: r => uptoBulkEntry x + uptoBulkEntries r
def uptoBulkEntry {H : Type} : Lit × DataW H → Nat
  | (.string bytes, d) => bytes.length + uptoBulk d + 1
  | (_, d) => uptoBulk d + 1
 end
def uptoSmall : (H : Type) → List (DataW H) → Bool := fun _ ds => decide (uptoBulkAll ds ≤ 1048576)
def OpenSpec.upto (s : _root_.Go.ChangeSpec) : _root_.Go.OpenSpec := { _root_.Go.OpenSpec.ofChange s with cond := some uptoSmall }

/-- 'laws.FnExactCompareRows', WHERE WHAT IT READS IS OF BULK AT MOST 1048576: true; the input reads as it did. -/
def fnExactCompareRowsUptoRow : OpenClaim := { program := "ythageciihhpmoaa", sum := "de519bdb44abb1b4392a7b4054664482d59b2aff61aa05525a54a7326ab2c8f3", func := "loop.example/g01921/laws.FnExactCompareRows", spec := "fnExactCompareRows", apart := false, narrowed := true }
def FnExactCompareRowsUptoSaid : Prop := fnExactCompareRowsUptoRow.holds Try.pinned (OpenSpec.upto fnExactCompareRowsSpec)

/-- 'laws.FnExactIsValidTable', WHERE WHAT IT READS IS OF BULK AT MOST 1048576: true; the input reads as it did. -/
def fnExactIsValidTableUptoRow : OpenClaim := { program := "ythageciihhpmoaa", sum := "de519bdb44abb1b4392a7b4054664482d59b2aff61aa05525a54a7326ab2c8f3", func := "loop.example/g01921/laws.FnExactIsValidTable", spec := "fnExactIsValidTable", unfollowed := true, recurses := true, apart := false, narrowed := true }
def FnExactIsValidTableUptoSaid : Prop := fnExactIsValidTableUptoRow.holds Try.pinned (OpenSpec.upto fnExactIsValidTableSpec)

/-- 'laws.FnExactNewTable', WHERE WHAT IT READS IS OF BULK AT MOST 1048576: true; the input reads as it did. -/
def fnExactNewTableUptoRow : OpenClaim := { program := "ythageciihhpmoaa", sum := "de519bdb44abb1b4392a7b4054664482d59b2aff61aa05525a54a7326ab2c8f3", func := "loop.example/g01921/laws.FnExactNewTable", spec := "fnExactNewTable", unfollowed := true, recurses := true, apart := false, narrowed := true }
def FnExactNewTableUptoSaid : Prop := fnExactNewTableUptoRow.holds Try.pinned (OpenSpec.upto fnExactNewTableSpec)

/-- 'laws.FnExactContainsRow', WHERE WHAT IT READS IS OF BULK AT MOST 1048576: true; the input reads as it did. -/
def fnExactContainsRowUptoRow : OpenClaim := { program := "ythageciihhpmoaa", sum := "de519bdb44abb1b4392a7b4054664482d59b2aff61aa05525a54a7326ab2c8f3", func := "loop.example/g01921/laws.FnExactContainsRow", spec := "fnExactContainsRow", unfollowed := true, recurses := true, apart := false, narrowed := true }
def FnExactContainsRowUptoSaid : Prop := fnExactContainsRowUptoRow.holds Try.pinned (OpenSpec.upto fnExactContainsRowSpec)

/-- 'laws.FnExactInsertRow', WHERE WHAT IT READS IS OF BULK AT MOST 1048576: true; the input reads as it did. -/
def fnExactInsertRowUptoRow : OpenClaim := { program := "ythageciihhpmoaa", sum := "de519bdb44abb1b4392a7b4054664482d59b2aff61aa05525a54a7326ab2c8f3", func := "loop.example/g01921/laws.FnExactInsertRow", spec := "fnExactInsertRow", inPlace := ["slices.overlaps[[]int]"], unfollowed := true, recurses := true, apart := false, narrowed := true }
def FnExactInsertRowUptoSaid : Prop := fnExactInsertRowUptoRow.holds Try.pinned (OpenSpec.upto fnExactInsertRowSpec)

/-- 'laws.FnExactDeleteRow', WHERE WHAT IT READS IS OF BULK AT MOST 1048576: true; the input reads as it did. -/
def fnExactDeleteRowUptoRow : OpenClaim := { program := "ythageciihhpmoaa", sum := "de519bdb44abb1b4392a7b4054664482d59b2aff61aa05525a54a7326ab2c8f3", func := "loop.example/g01921/laws.FnExactDeleteRow", spec := "fnExactDeleteRow", unfollowed := true, recurses := true, apart := false, narrowed := true }
def FnExactDeleteRowUptoSaid : Prop := fnExactDeleteRowUptoRow.holds Try.pinned (OpenSpec.upto fnExactDeleteRowSpec)

/-- 'laws.FnExactEqualTables', WHERE WHAT IT READS IS OF BULK AT MOST 1048576: true; the input reads as it did. -/
def fnExactEqualTablesUptoRow : OpenClaim := { program := "ythageciihhpmoaa", sum := "de519bdb44abb1b4392a7b4054664482d59b2aff61aa05525a54a7326ab2c8f3", func := "loop.example/g01921/laws.FnExactEqualTables", spec := "fnExactEqualTables", unfollowed := true, recurses := true, apart := false, narrowed := true }
def FnExactEqualTablesUptoSaid : Prop := fnExactEqualTablesUptoRow.holds Try.pinned (OpenSpec.upto fnExactEqualTablesSpec)

/-- 'laws.FnExactSelectColumns', WHERE WHAT IT READS IS OF BULK AT MOST 1048576: true; the input reads as it did. -/
def fnExactSelectColumnsUptoRow : OpenClaim := { program := "ythageciihhpmoaa", sum := "de519bdb44abb1b4392a7b4054664482d59b2aff61aa05525a54a7326ab2c8f3", func := "loop.example/g01921/laws.FnExactSelectColumns", spec := "fnExactSelectColumns", apart := false, narrowed := true }
def FnExactSelectColumnsUptoSaid : Prop := fnExactSelectColumnsUptoRow.holds Try.pinned (OpenSpec.upto fnExactSelectColumnsSpec)

/-- 'laws.FnClasses', WHERE WHAT IT READS IS OF BULK AT MOST 1048576: true; the input reads as it did. -/
def fnClassesUptoRow : OpenClaim := { program := "ythageciihhpmoaa", sum := "de519bdb44abb1b4392a7b4054664482d59b2aff61aa05525a54a7326ab2c8f3", func := "loop.example/g01921/laws.FnClasses", spec := "fnClasses", unfollowed := true, recurses := true, apart := false, narrowed := true }
def FnClassesUptoSaid : Prop := fnClassesUptoRow.holds Try.pinned (OpenSpec.upto fnClassesSpec)

/-- 'laws.FnExactFormatLocation', WHERE WHAT IT READS IS OF BULK AT MOST 1048576: true; the input reads as it did. -/
def fnExactFormatLocationUptoRow : OpenClaim := { program := "ythageciihhpmoaa", sum := "de519bdb44abb1b4392a7b4054664482d59b2aff61aa05525a54a7326ab2c8f3", func := "loop.example/g01921/laws.FnExactFormatLocation", spec := "fnExactFormatLocation", unfollowed := true, recurses := true, apart := false, narrowed := true }
def FnExactFormatLocationUptoSaid : Prop := fnExactFormatLocationUptoRow.holds Try.pinned (OpenSpec.upto fnExactFormatLocationSpec)

/-- 'laws.FnExactParseLocation', WHERE WHAT IT READS IS OF BULK AT MOST 1048576: true; the input reads as it did. -/
def fnExactParseLocationUptoRow : OpenClaim := { program := "ythageciihhpmoaa", sum := "de519bdb44abb1b4392a7b4054664482d59b2aff61aa05525a54a7326ab2c8f3", func := "loop.example/g01921/laws.FnExactParseLocation", spec := "fnExactParseLocation", unfollowed := true, recurses := true, apart := false, narrowed := true }
def FnExactParseLocationUptoSaid : Prop := fnExactParseLocationUptoRow.holds Try.pinned (OpenSpec.upto fnExactParseLocationSpec)

end Rows
end Go.Proofs.Ythageciihhpmoaa
