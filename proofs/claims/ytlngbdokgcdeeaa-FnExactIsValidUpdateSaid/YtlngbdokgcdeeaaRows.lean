/-
  No cell of these rows narrows 'for every input' (looked for: loops, veiled, ifaces, maps, wideKeys, modest, calm, conditions, laid).
  DERIVED. THE GIVEN ROWS OF THIS SEAT. 5 by the template 'for every input the law returns true; each argument reads behind the call as it read before'; 0 by the template 'total and deterministic' (their statements: YtlngbdokgcdeeaaTotals.lean).
  GIVEN WITH THE SEED: the statements are not yours to turn. If you find one false, say at which input.
  Laid BY PROGRAM, IN A SANDBOX (cutbox-rows.mjs): the forced cells as the released guide's own fill.sh prints them over the translation 1f653c90bdf0684a… (all of the seat's roots in one cut). By AI agents, Wed Nov 11 2026. No macro, syntax, notation, axiom, sorry.
-/
import Derived.Test.YtlngbdokgcdeeaaChecked
import GoSem.Claim
import GoSem.ClaimJoined
import GoSem.ClaimMapViews
import Derived.JoinedTies
import Derived.KernelRfl
namespace Go.Proofs.Ytlngbdokgcdeeaa
/- THE CELL 'sum', in the pinned program and in every row, IS THE sha256 OF THE DUMP (.gsa) THAT YtlngbdokgcdeeaaProg.lean LOADS. Nothing in Lean hashes anything: it is a label: what it is worth is what the hold of that sum in a sandbox is worth. -/
noncomputable def Try.pinned : Pinned := { name := "ytlngbdokgcdeeaa", sum := "1f653c90bdf0684a4d1499bfc7f9a62e3011470bafc2cacb0159b80bd4fd6c7a", checked := Try.checked }
namespace Rows
def none {H : Type} : Left H := { results := [], args := [] }

/-- 'laws.FnExactIsValidUpdate': WHATEVER THE INPUT: true; the input reads as it did. -/
def fnExactIsValidUpdateSpec : ChangeSpec := { name := "fnExactIsValidUpdate", fn := fun _ => fun
  | [d1, d2] => { results := [.lit (.bool true)], args := [d1, d2] }
  | _ => none }
def fnExactIsValidUpdateRow : OpenClaim := { program := "ytlngbdokgcdeeaa", sum := "1f653c90bdf0684a4d1499bfc7f9a62e3011470bafc2cacb0159b80bd4fd6c7a", func := "loop.example/g01921/laws.FnExactIsValidUpdate", spec := "fnExactIsValidUpdate", unfollowed := true, recurses := true, apart := false }
def FnExactIsValidUpdateSaid : Prop := fnExactIsValidUpdateRow.holds Try.pinned (OpenSpec.ofChange fnExactIsValidUpdateSpec)

/-- ITS FALSE NEIGHBOUR: 'it returns false'. Refute it at one input. -/
def fnExactIsValidUpdateWrong : ChangeSpec := { name := "fnExactIsValidUpdate", fn := fun _ => fun
  | [d1, d2] => { results := [.lit (.bool false)], args := [d1, d2] }
  | _ => none }
def FnExactIsValidUpdateWrongFalsely : Prop := fnExactIsValidUpdateRow.holds Try.pinned (OpenSpec.ofChange fnExactIsValidUpdateWrong)

/-- 'laws.FnExactInvertUpdate': WHATEVER THE INPUT: true; the input reads as it did. -/
def fnExactInvertUpdateSpec : ChangeSpec := { name := "fnExactInvertUpdate", fn := fun _ => fun
  | [d] => { results := [.lit (.bool true)], args := [d] }
  | _ => none }
def fnExactInvertUpdateRow : OpenClaim := { program := "ytlngbdokgcdeeaa", sum := "1f653c90bdf0684a4d1499bfc7f9a62e3011470bafc2cacb0159b80bd4fd6c7a", func := "loop.example/g01921/laws.FnExactInvertUpdate", spec := "fnExactInvertUpdate", apart := false }
def FnExactInvertUpdateSaid : Prop := fnExactInvertUpdateRow.holds Try.pinned (OpenSpec.ofChange fnExactInvertUpdateSpec)

/-- ITS FALSE NEIGHBOUR: 'it returns false'. Refute it at one input. -/
def fnExactInvertUpdateWrong : ChangeSpec := { name := "fnExactInvertUpdate", fn := fun _ => fun
  | [d] => { results := [.lit (.bool false)], args := [d] }
  | _ => none }
def FnExactInvertUpdateWrongFalsely : Prop := fnExactInvertUpdateRow.holds Try.pinned (OpenSpec.ofChange fnExactInvertUpdateWrong)

/-- 'laws.FnExactEqualUpdates': WHATEVER THE INPUT: true; the input reads as it did. -/
def fnExactEqualUpdatesSpec : ChangeSpec := { name := "fnExactEqualUpdates", fn := fun _ => fun
  | [d1, d2] => { results := [.lit (.bool true)], args := [d1, d2] }
  | _ => none }
def fnExactEqualUpdatesRow : OpenClaim := { program := "ytlngbdokgcdeeaa", sum := "1f653c90bdf0684a4d1499bfc7f9a62e3011470bafc2cacb0159b80bd4fd6c7a", func := "loop.example/g01921/laws.FnExactEqualUpdates", spec := "fnExactEqualUpdates", apart := false }
def FnExactEqualUpdatesSaid : Prop := fnExactEqualUpdatesRow.holds Try.pinned (OpenSpec.ofChange fnExactEqualUpdatesSpec)

/-- ITS FALSE NEIGHBOUR: 'it returns false'. Refute it at one input. -/
def fnExactEqualUpdatesWrong : ChangeSpec := { name := "fnExactEqualUpdates", fn := fun _ => fun
  | [d1, d2] => { results := [.lit (.bool false)], args := [d1, d2] }
  | _ => none }
def FnExactEqualUpdatesWrongFalsely : Prop := fnExactEqualUpdatesRow.holds Try.pinned (OpenSpec.ofChange fnExactEqualUpdatesWrong)

/-- 'laws.FnExactFormatUpdate': WHATEVER THE INPUT: true; the input reads as it did. -/
def fnExactFormatUpdateSpec : ChangeSpec := { name := "fnExactFormatUpdate", fn := fun _ => fun
  | [d] => { results := [.lit (.bool true)], args := [d] }
  | _ => none }
def fnExactFormatUpdateRow : OpenClaim := { program := "ytlngbdokgcdeeaa", sum := "1f653c90bdf0684a4d1499bfc7f9a62e3011470bafc2cacb0159b80bd4fd6c7a", func := "loop.example/g01921/laws.FnExactFormatUpdate", spec := "fnExactFormatUpdate", unfollowed := true, recurses := true, apart := false }
def FnExactFormatUpdateSaid : Prop := fnExactFormatUpdateRow.holds Try.pinned (OpenSpec.ofChange fnExactFormatUpdateSpec)

/-- ITS FALSE NEIGHBOUR: 'it returns false'. Refute it at one input. -/
def fnExactFormatUpdateWrong : ChangeSpec := { name := "fnExactFormatUpdate", fn := fun _ => fun
  | [d] => { results := [.lit (.bool false)], args := [d] }
  | _ => none }
def FnExactFormatUpdateWrongFalsely : Prop := fnExactFormatUpdateRow.holds Try.pinned (OpenSpec.ofChange fnExactFormatUpdateWrong)

/-- 'laws.FnExactParseUpdate': WHATEVER THE INPUT: true; the input reads as it did. -/
def fnExactParseUpdateSpec : ChangeSpec := { name := "fnExactParseUpdate", fn := fun _ => fun
  | [d] => { results := [.lit (.bool true)], args := [d] }
  | _ => none }
def fnExactParseUpdateRow : OpenClaim := { program := "ytlngbdokgcdeeaa", sum := "1f653c90bdf0684a4d1499bfc7f9a62e3011470bafc2cacb0159b80bd4fd6c7a", func := "loop.example/g01921/laws.FnExactParseUpdate", spec := "fnExactParseUpdate", unfollowed := true, recurses := true, apart := false }
def FnExactParseUpdateSaid : Prop := fnExactParseUpdateRow.holds Try.pinned (OpenSpec.ofChange fnExactParseUpdateSpec)

/-- ITS FALSE NEIGHBOUR: 'it returns false'. Refute it at one input. -/
def fnExactParseUpdateWrong : ChangeSpec := { name := "fnExactParseUpdate", fn := fun _ => fun
  | [d] => { results := [.lit (.bool false)], args := [d] }
  | _ => none }
def FnExactParseUpdateWrongFalsely : Prop := fnExactParseUpdateRow.holds Try.pinned (OpenSpec.ofChange fnExactParseUpdateWrong)

/- THE SECOND FORM. 'bulk': how many values and letters a reading holds, each counted each time it is reached (what is shared counts as often as it is met; a slice's spare places count too). A statement '..UptoSaid' is the law's where the arguments, and the package variables that the reading takes, are together of bulk at most 1048576: NARROWER than '..Said'. Prove '..Said' where nothing that the law and all that it calls make is longer than what came in: it says more and counts as full. Else prove '..UptoSaid'. A law counts once. -/
mutual
def uptoBulk {H : Type} : DataW H → Nat
  | .lit (.string bytes) => bytes.length + 1
  | .lit _ => 1
  | .nil => 1
  | .ptr d => uptoBulk d + 1
  | .slice elems spare => uptoBulkAll elems + uptoBulkAll spare + 1
  | .agg parts => uptoBulkAll parts + 1
  | .iface _ d => uptoBulk d + 1
  | .map entries => uptoBulkEntries entries + 1
  | .held _ => 1
def uptoBulkAll {H : Type} : List (DataW H) → Nat
  | [] => 0
  | d :: r => uptoBulk d + uptoBulkAll r
def uptoBulkEntries {H : Type} : List (Lit × DataW H) → Nat
  | [] => 0
  | x :: r => uptoBulkEntry x + uptoBulkEntries r
def uptoBulkEntry {H : Type} : Lit × DataW H → Nat
  | (.string bytes, d) => bytes.length + uptoBulk d + 1
  | (_, d) => uptoBulk d + 1
 end
def uptoSmall : (H : Type) → List (DataW H) → Bool := fun _ ds => decide (uptoBulkAll ds ≤ 1048576)
def OpenSpec.upto (s : _root_.Go.ChangeSpec) : _root_.Go.OpenSpec := { _root_.Go.OpenSpec.ofChange s with cond := some uptoSmall }

/-- 'laws.FnExactIsValidUpdate', WHERE WHAT IT READS IS OF BULK AT MOST 1048576: true; the input reads as it did. -/
def fnExactIsValidUpdateUptoRow : OpenClaim := { program := "ytlngbdokgcdeeaa", sum := "1f653c90bdf0684a4d1499bfc7f9a62e3011470bafc2cacb0159b80bd4fd6c7a", func := "loop.example/g01921/laws.FnExactIsValidUpdate", spec := "fnExactIsValidUpdate", unfollowed := true, recurses := true, apart := false, narrowed := true }
def FnExactIsValidUpdateUptoSaid : Prop := fnExactIsValidUpdateUptoRow.holds Try.pinned (OpenSpec.upto fnExactIsValidUpdateSpec)

/-- 'laws.FnExactInvertUpdate', WHERE WHAT IT READS IS OF BULK AT MOST 1048576: true; the input reads as it did. -/
def fnExactInvertUpdateUptoRow : OpenClaim := { program := "ytlngbdokgcdeeaa", sum := "1f653c90bdf0684a4d1499bfc7f9a62e3011470bafc2cacb0159b80bd4fd6c7a", func := "loop.example/g01921/laws.FnExactInvertUpdate", spec := "fnExactInvertUpdate", apart := false, narrowed := true }
def FnExactInvertUpdateUptoSaid : Prop := fnExactInvertUpdateUptoRow.holds Try.pinned (OpenSpec.upto fnExactInvertUpdateSpec)

/-- 'laws.FnExactEqualUpdates', WHERE WHAT IT READS IS OF BULK AT MOST 1048576: true; the input reads as it did. -/
def fnExactEqualUpdatesUptoRow : OpenClaim := { program := "ytlngbdokgcdeeaa", sum := "1f653c90bdf0684a4d1499bfc7f9a62e3011470bafc2cacb0159b80bd4fd6c7a", func := "loop.example/g01921/laws.FnExactEqualUpdates", spec := "fnExactEqualUpdates", apart := false, narrowed := true }
def FnExactEqualUpdatesUptoSaid : Prop := fnExactEqualUpdatesUptoRow.holds Try.pinned (OpenSpec.upto fnExactEqualUpdatesSpec)

/-- 'laws.FnExactFormatUpdate', WHERE WHAT IT READS IS OF BULK AT MOST 1048576: true; the input reads as it did. -/
def fnExactFormatUpdateUptoRow : OpenClaim := { program := "ytlngbdokgcdeeaa", sum := "1f653c90bdf0684a4d1499bfc7f9a62e3011470bafc2cacb0159b80bd4fd6c7a", func := "loop.example/g01921/laws.FnExactFormatUpdate", spec := "fnExactFormatUpdate", unfollowed := true, recurses := true, apart := false, narrowed := true }
def FnExactFormatUpdateUptoSaid : Prop := fnExactFormatUpdateUptoRow.holds Try.pinned (OpenSpec.upto fnExactFormatUpdateSpec)

/-- 'laws.FnExactParseUpdate', WHERE WHAT IT READS IS OF BULK AT MOST 1048576: true; the input reads as it did. -/
def fnExactParseUpdateUptoRow : OpenClaim := { program := "ytlngbdokgcdeeaa", sum := "1f653c90bdf0684a4d1499bfc7f9a62e3011470bafc2cacb0159b80bd4fd6c7a", func := "loop.example/g01921/laws.FnExactParseUpdate", spec := "fnExactParseUpdate", unfollowed := true, recurses := true, apart := false, narrowed := true }
def FnExactParseUpdateUptoSaid : Prop := fnExactParseUpdateUptoRow.holds Try.pinned (OpenSpec.upto fnExactParseUpdateSpec)

end Rows
end Go.Proofs.Ytlngbdokgcdeeaa
