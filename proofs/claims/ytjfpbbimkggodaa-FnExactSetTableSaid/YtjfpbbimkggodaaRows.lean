/-
  No cell of these rows narrows 'for every input' (looked for: loops, veiled, ifaces, maps, wideKeys, modest, calm, conditions, laid).
  DERIVED. THE GIVEN ROWS OF THIS SEAT. 6 by the template 'for every input the law returns true; each argument reads behind the call as it read before'; 0 by the template 'total and deterministic' (their statements: YtjfpbbimkggodaaTotals.lean).
  GIVEN WITH THE SEED: the statements are not yours to turn. If you find one false, say at which input.
  Laid BY PROGRAM, IN A SANDBOX (cutbox-rows.mjs): the forced cells as the released guide's own fill.sh prints them over the translation 879c74ebe215ea7a… (all of the seat's roots in one cut). By AI agents, Wed Nov 11 2026. No macro, syntax, notation, axiom, sorry.
-/
import Derived.Test.YtjfpbbimkggodaaChecked
import GoSem.Claim
import GoSem.ClaimJoined
import GoSem.ClaimMapViews
import Derived.JoinedTies
import Derived.KernelRfl
namespace Go.Proofs.Ytjfpbbimkggodaa
/- THE CELL 'sum', in the pinned program and in every row, IS THE sha256 OF THE DUMP (.gsa) THAT YtjfpbbimkggodaaProg.lean LOADS. Nothing in Lean hashes anything: it is a label: what it is worth is what the hold of that sum in a sandbox is worth. -/
noncomputable def Try.pinned : Pinned := { name := "ytjfpbbimkggodaa", sum := "879c74ebe215ea7a6e0d2a425b79fad51229827dd818a4ed305695966a895927", checked := Try.checked }
namespace Rows
def none {H : Type} : Left H := { results := [], args := [] }

/-- 'laws.FnExactIsValidDatabase': WHATEVER THE INPUT: true; the input reads as it did. -/
def fnExactIsValidDatabaseSpec : ChangeSpec := { name := "fnExactIsValidDatabase", fn := fun _ => fun
  | [d] => { results := [.lit (.bool true)], args := [d] }
  | _ => none }
def fnExactIsValidDatabaseRow : OpenClaim := { program := "ytjfpbbimkggodaa", sum := "879c74ebe215ea7a6e0d2a425b79fad51229827dd818a4ed305695966a895927", func := "loop.example/g01921/laws.FnExactIsValidDatabase", spec := "fnExactIsValidDatabase", unfollowed := true, recurses := true, apart := false }
def FnExactIsValidDatabaseSaid : Prop := fnExactIsValidDatabaseRow.holds Try.pinned (OpenSpec.ofChange fnExactIsValidDatabaseSpec)

/-- ITS FALSE NEIGHBOUR: 'it returns false'. Refute it at one input. -/
def fnExactIsValidDatabaseWrong : ChangeSpec := { name := "fnExactIsValidDatabase", fn := fun _ => fun
  | [d] => { results := [.lit (.bool false)], args := [d] }
  | _ => none }
def FnExactIsValidDatabaseWrongFalsely : Prop := fnExactIsValidDatabaseRow.holds Try.pinned (OpenSpec.ofChange fnExactIsValidDatabaseWrong)

/-- 'laws.FnExactLookupTable': WHATEVER THE INPUT: true; the input reads as it did. -/
def fnExactLookupTableSpec : ChangeSpec := { name := "fnExactLookupTable", fn := fun _ => fun
  | [d1, d2] => { results := [.lit (.bool true)], args := [d1, d2] }
  | _ => none }
def fnExactLookupTableRow : OpenClaim := { program := "ytjfpbbimkggodaa", sum := "879c74ebe215ea7a6e0d2a425b79fad51229827dd818a4ed305695966a895927", func := "loop.example/g01921/laws.FnExactLookupTable", spec := "fnExactLookupTable", unfollowed := true, recurses := true, apart := false }
def FnExactLookupTableSaid : Prop := fnExactLookupTableRow.holds Try.pinned (OpenSpec.ofChange fnExactLookupTableSpec)

/-- ITS FALSE NEIGHBOUR: 'it returns false'. Refute it at one input. -/
def fnExactLookupTableWrong : ChangeSpec := { name := "fnExactLookupTable", fn := fun _ => fun
  | [d1, d2] => { results := [.lit (.bool false)], args := [d1, d2] }
  | _ => none }
def FnExactLookupTableWrongFalsely : Prop := fnExactLookupTableRow.holds Try.pinned (OpenSpec.ofChange fnExactLookupTableWrong)

/-- 'laws.FnExactSetTable': WHATEVER THE INPUT: true; the input reads as it did. -/
def fnExactSetTableSpec : ChangeSpec := { name := "fnExactSetTable", fn := fun _ => fun
  | [d1, d2] => { results := [.lit (.bool true)], args := [d1, d2] }
  | _ => none }
def fnExactSetTableRow : OpenClaim := { program := "ytjfpbbimkggodaa", sum := "879c74ebe215ea7a6e0d2a425b79fad51229827dd818a4ed305695966a895927", func := "loop.example/g01921/laws.FnExactSetTable", spec := "fnExactSetTable", unfollowed := true, recurses := true, apart := false }
def FnExactSetTableSaid : Prop := fnExactSetTableRow.holds Try.pinned (OpenSpec.ofChange fnExactSetTableSpec)

/-- ITS FALSE NEIGHBOUR: 'it returns false'. Refute it at one input. -/
def fnExactSetTableWrong : ChangeSpec := { name := "fnExactSetTable", fn := fun _ => fun
  | [d1, d2] => { results := [.lit (.bool false)], args := [d1, d2] }
  | _ => none }
def FnExactSetTableWrongFalsely : Prop := fnExactSetTableRow.holds Try.pinned (OpenSpec.ofChange fnExactSetTableWrong)

/-- 'laws.FnExactRemoveTable': WHATEVER THE INPUT: true; the input reads as it did. -/
def fnExactRemoveTableSpec : ChangeSpec := { name := "fnExactRemoveTable", fn := fun _ => fun
  | [d1, d2] => { results := [.lit (.bool true)], args := [d1, d2] }
  | _ => none }
def fnExactRemoveTableRow : OpenClaim := { program := "ytjfpbbimkggodaa", sum := "879c74ebe215ea7a6e0d2a425b79fad51229827dd818a4ed305695966a895927", func := "loop.example/g01921/laws.FnExactRemoveTable", spec := "fnExactRemoveTable", unfollowed := true, recurses := true, apart := false }
def FnExactRemoveTableSaid : Prop := fnExactRemoveTableRow.holds Try.pinned (OpenSpec.ofChange fnExactRemoveTableSpec)

/-- ITS FALSE NEIGHBOUR: 'it returns false'. Refute it at one input. -/
def fnExactRemoveTableWrong : ChangeSpec := { name := "fnExactRemoveTable", fn := fun _ => fun
  | [d1, d2] => { results := [.lit (.bool false)], args := [d1, d2] }
  | _ => none }
def FnExactRemoveTableWrongFalsely : Prop := fnExactRemoveTableRow.holds Try.pinned (OpenSpec.ofChange fnExactRemoveTableWrong)

/-- 'laws.FnExactCountRows': WHATEVER THE INPUT: true; the input reads as it did. -/
def fnExactCountRowsSpec : ChangeSpec := { name := "fnExactCountRows", fn := fun _ => fun
  | [d] => { results := [.lit (.bool true)], args := [d] }
  | _ => none }
def fnExactCountRowsRow : OpenClaim := { program := "ytjfpbbimkggodaa", sum := "879c74ebe215ea7a6e0d2a425b79fad51229827dd818a4ed305695966a895927", func := "loop.example/g01921/laws.FnExactCountRows", spec := "fnExactCountRows", unfollowed := true, recurses := true, apart := false }
def FnExactCountRowsSaid : Prop := fnExactCountRowsRow.holds Try.pinned (OpenSpec.ofChange fnExactCountRowsSpec)

/-- ITS FALSE NEIGHBOUR: 'it returns false'. Refute it at one input. -/
def fnExactCountRowsWrong : ChangeSpec := { name := "fnExactCountRows", fn := fun _ => fun
  | [d] => { results := [.lit (.bool false)], args := [d] }
  | _ => none }
def FnExactCountRowsWrongFalsely : Prop := fnExactCountRowsRow.holds Try.pinned (OpenSpec.ofChange fnExactCountRowsWrong)

/-- 'laws.FnExactEqualDatabases': WHATEVER THE INPUT: true; the input reads as it did. -/
def fnExactEqualDatabasesSpec : ChangeSpec := { name := "fnExactEqualDatabases", fn := fun _ => fun
  | [d1, d2] => { results := [.lit (.bool true)], args := [d1, d2] }
  | _ => none }
def fnExactEqualDatabasesRow : OpenClaim := { program := "ytjfpbbimkggodaa", sum := "879c74ebe215ea7a6e0d2a425b79fad51229827dd818a4ed305695966a895927", func := "loop.example/g01921/laws.FnExactEqualDatabases", spec := "fnExactEqualDatabases", unfollowed := true, recurses := true, apart := false }
def FnExactEqualDatabasesSaid : Prop := fnExactEqualDatabasesRow.holds Try.pinned (OpenSpec.ofChange fnExactEqualDatabasesSpec)

/-- ITS FALSE NEIGHBOUR: 'it returns false'. Refute it at one input. -/
def fnExactEqualDatabasesWrong : ChangeSpec := { name := "fnExactEqualDatabases", fn := fun _ => fun
  | [d1, d2] => { results := [.lit (.bool false)], args := [d1, d2] }
  | _ => none }
def FnExactEqualDatabasesWrongFalsely : Prop := fnExactEqualDatabasesRow.holds Try.pinned (OpenSpec.ofChange fnExactEqualDatabasesWrong)

/- THE SECOND FORM. 'bulk': how many values and letters a reading holds, each counted each time it is reached (what is shared counts as often as it is met; a slice's spare places count too). A statement '..UptoSaid' is the law's where the arguments, and the package variables that the reading takes, are together of bulk at most 1048576: NARROWER than '..Said'. Prove '..Said' where nothing that the law and all that it calls make is longer than what came in: it says more and counts as full. Else prove '..UptoSaid'. A law counts once. -/
mutual
def uptoBulk {H : Type} : DataW H → Nat
  | .lit (.string bytes) => bytes.length + 1
  | .lit _ => 1
  | .nil => 1
  | .ptr d => uptoBulk d + 1
  | .slice elems spare => uptoBulkAll elems + uptoBulkAll spare + 1
  | .agg parts => uptoBulkAll parts + 1
  | .iface _ d => uptoBulk d + 1
  | .map entries => uptoBulkEntries entries + 1
  | .held _ => 1
def uptoBulkAll {H : Type} : List (DataW H) → Nat
  | [] => 0
  | d :: r => uptoBulk d + uptoBulkAll r
def uptoBulkEntries {H : Type} : List (Lit × DataW H) → Nat
  | [] => 0
  | x :: r => uptoBulkEntry x + uptoBulkEntries r
def uptoBulkEntry {H : Type} : Lit × DataW H → Nat
  | (.string bytes, d) => bytes.length + uptoBulk d + 1
  | (_, d) => uptoBulk d + 1
 end
def uptoSmall : (H : Type) → List (DataW H) → Bool := fun _ ds => decide (uptoBulkAll ds ≤ 1048576)
def OpenSpec.upto (s : _root_.Go.ChangeSpec) : _root_.Go.OpenSpec := { _root_.Go.OpenSpec.ofChange s with cond := some uptoSmall }

/-- 'laws.FnExactIsValidDatabase', WHERE WHAT IT READS IS OF BULK AT MOST 1048576: true; the input reads as it did. -/
def fnExactIsValidDatabaseUptoRow : OpenClaim := { program := "ytjfpbbimkggodaa", sum := "879c74ebe215ea7a6e0d2a425b79fad51229827dd818a4ed305695966a895927", func := "loop.example/g01921/laws.FnExactIsValidDatabase", spec := "fnExactIsValidDatabase", unfollowed := true, recurses := true, apart := false, narrowed := true }
def FnExactIsValidDatabaseUptoSaid : Prop := fnExactIsValidDatabaseUptoRow.holds Try.pinned (OpenSpec.upto fnExactIsValidDatabaseSpec)

/-- 'laws.FnExactLookupTable', WHERE WHAT IT READS IS OF BULK AT MOST 1048576: true; the input reads as it did. -/
def fnExactLookupTableUptoRow : OpenClaim := { program := "ytjfpbbimkggodaa", sum := "879c74ebe215ea7a6e0d2a425b79fad51229827dd818a4ed305695966a895927", func := "loop.example/g01921/laws.FnExactLookupTable", spec := "fnExactLookupTable", unfollowed := true, recurses := true, apart := false, narrowed := true }
def FnExactLookupTableUptoSaid : Prop := fnExactLookupTableUptoRow.holds Try.pinned (OpenSpec.upto fnExactLookupTableSpec)

/-- 'laws.FnExactSetTable', WHERE WHAT IT READS IS OF BULK AT MOST 1048576: true; the input reads as it did. -/
def fnExactSetTableUptoRow : OpenClaim := { program := "ytjfpbbimkggodaa", sum := "879c74ebe215ea7a6e0d2a425b79fad51229827dd818a4ed305695966a895927", func := "loop.example/g01921/laws.FnExactSetTable", spec := "fnExactSetTable", unfollowed := true, recurses := true, apart := false, narrowed := true }
def FnExactSetTableUptoSaid : Prop := fnExactSetTableUptoRow.holds Try.pinned (OpenSpec.upto fnExactSetTableSpec)

/-- 'laws.FnExactRemoveTable', WHERE WHAT IT READS IS OF BULK AT MOST 1048576: true; the input reads as it did. -/
def fnExactRemoveTableUptoRow : OpenClaim := { program := "ytjfpbbimkggodaa", sum := "879c74ebe215ea7a6e0d2a425b79fad51229827dd818a4ed305695966a895927", func := "loop.example/g01921/laws.FnExactRemoveTable", spec := "fnExactRemoveTable", unfollowed := true, recurses := true, apart := false, narrowed := true }
def FnExactRemoveTableUptoSaid : Prop := fnExactRemoveTableUptoRow.holds Try.pinned (OpenSpec.upto fnExactRemoveTableSpec)

/-- 'laws.FnExactCountRows', WHERE WHAT IT READS IS OF BULK AT MOST 1048576: true; the input reads as it did. -/
def fnExactCountRowsUptoRow : OpenClaim := { program := "ytjfpbbimkggodaa", sum := "879c74ebe215ea7a6e0d2a425b79fad51229827dd818a4ed305695966a895927", func := "loop.example/g01921/laws.FnExactCountRows", spec := "fnExactCountRows", unfollowed := true, recurses := true, apart := false, narrowed := true }
def FnExactCountRowsUptoSaid : Prop := fnExactCountRowsUptoRow.holds Try.pinned (OpenSpec.upto fnExactCountRowsSpec)

/-- 'laws.FnExactEqualDatabases', WHERE WHAT IT READS IS OF BULK AT MOST 1048576: true; the input reads as it did. -/
def fnExactEqualDatabasesUptoRow : OpenClaim := { program := "ytjfpbbimkggodaa", sum := "879c74ebe215ea7a6e0d2a425b79fad51229827dd818a4ed305695966a895927", func := "loop.example/g01921/laws.FnExactEqualDatabases", spec := "fnExactEqualDatabases", unfollowed := true, recurses := true, apart := false, narrowed := true }
def FnExactEqualDatabasesUptoSaid : Prop := fnExactEqualDatabasesUptoRow.holds Try.pinned (OpenSpec.upto fnExactEqualDatabasesSpec)

end Rows
end Go.Proofs.Ytjfpbbimkggodaa
