/-
  No cell of these rows narrows 'for every input' (looked for: loops, veiled, ifaces, maps, wideKeys, modest, calm, conditions, laid).
  DERIVED. THE GIVEN ROWS OF THIS SEAT. 9 by the template 'for every input the law returns true; each argument reads behind the call as it read before'; 0 by the template 'total and deterministic' (their statements: YthkmjdiopmpjoaaTotals.lean).
  GIVEN WITH THE SEED: the statements are not yours to turn. If you find one false, say at which input.
  Laid BY PROGRAM, IN A SANDBOX (cutbox-rows.mjs): the forced cells as the released guide's own fill.sh prints them over the translation 48cd8c25863b17bf… (all of the seat's roots in one cut). By AI agents, Wed Nov 11 2026. No macro, syntax, notation, axiom, sorry.
-/
import Derived.Test.YthkmjdiopmpjoaaChecked
import GoSem.Claim
import GoSem.ClaimJoined
import GoSem.ClaimMapViews
import Derived.JoinedTies
import Derived.KernelRfl
namespace Go.Proofs.Ythkmjdiopmpjoaa
/- THE CELL 'sum', in the pinned program and in every row, IS THE sha256 OF THE DUMP (.gsa) THAT YthkmjdiopmpjoaaProg.lean LOADS. Nothing in Lean hashes anything: it is a label: what it is worth is what the hold of that sum in a sandbox is worth. -/
noncomputable def Try.pinned : Pinned := { name := "ythkmjdiopmpjoaa", sum := "48cd8c25863b17bf77ef2ff40b14644fedfe6d62e5fb2a5725c0116abdc9ea51", checked := Try.checked }
namespace Rows
def none {H : Type} : Left H := { results := [], args := [] }

/-- 'laws.FnClasses': WHATEVER THE INPUT: true; the input reads as it did. -/
def fnClassesSpec : ChangeSpec := { name := "fnClasses", fn := fun _ => fun
  | [d] => { results := [.lit (.bool true)], args := [d] }
  | _ => none }
def fnClassesRow : OpenClaim := { program := "ythkmjdiopmpjoaa", sum := "48cd8c25863b17bf77ef2ff40b14644fedfe6d62e5fb2a5725c0116abdc9ea51", func := "loop.example/g01921/laws.FnClasses", spec := "fnClasses", unfollowed := true, recurses := true, apart := false }
def FnClassesSaid : Prop := fnClassesRow.holds Try.pinned (OpenSpec.ofChange fnClassesSpec)

/-- ITS FALSE NEIGHBOUR: 'it returns false'. Refute it at one input. -/
def fnClassesWrong : ChangeSpec := { name := "fnClasses", fn := fun _ => fun
  | [d] => { results := [.lit (.bool false)], args := [d] }
  | _ => none }
def FnClassesWrongFalsely : Prop := fnClassesRow.holds Try.pinned (OpenSpec.ofChange fnClassesWrong)

/-- 'laws.FnExactSizeClass': WHATEVER THE INPUT: true; the input reads as it did. -/
def fnExactSizeClassSpec : ChangeSpec := { name := "fnExactSizeClass", fn := fun _ => fun
  | [d] => { results := [.lit (.bool true)], args := [d] }
  | _ => none }
def fnExactSizeClassRow : OpenClaim := { program := "ythkmjdiopmpjoaa", sum := "48cd8c25863b17bf77ef2ff40b14644fedfe6d62e5fb2a5725c0116abdc9ea51", func := "loop.example/g01921/laws.FnExactSizeClass", spec := "fnExactSizeClass", apart := false }
def FnExactSizeClassSaid : Prop := fnExactSizeClassRow.holds Try.pinned (OpenSpec.ofChange fnExactSizeClassSpec)

/-- ITS FALSE NEIGHBOUR: 'it returns false'. Refute it at one input. -/
def fnExactSizeClassWrong : ChangeSpec := { name := "fnExactSizeClass", fn := fun _ => fun
  | [d] => { results := [.lit (.bool false)], args := [d] }
  | _ => none }
def FnExactSizeClassWrongFalsely : Prop := fnExactSizeClassRow.holds Try.pinned (OpenSpec.ofChange fnExactSizeClassWrong)

/-- 'laws.FnExactClassSize': WHATEVER THE INPUT: true; the input reads as it did. -/
def fnExactClassSizeSpec : ChangeSpec := { name := "fnExactClassSize", fn := fun _ => fun
  | [d] => { results := [.lit (.bool true)], args := [d] }
  | _ => none }
def fnExactClassSizeRow : OpenClaim := { program := "ythkmjdiopmpjoaa", sum := "48cd8c25863b17bf77ef2ff40b14644fedfe6d62e5fb2a5725c0116abdc9ea51", func := "loop.example/g01921/laws.FnExactClassSize", spec := "fnExactClassSize", apart := false }
def FnExactClassSizeSaid : Prop := fnExactClassSizeRow.holds Try.pinned (OpenSpec.ofChange fnExactClassSizeSpec)

/-- ITS FALSE NEIGHBOUR: 'it returns false'. Refute it at one input. -/
def fnExactClassSizeWrong : ChangeSpec := { name := "fnExactClassSize", fn := fun _ => fun
  | [d] => { results := [.lit (.bool false)], args := [d] }
  | _ => none }
def FnExactClassSizeWrongFalsely : Prop := fnExactClassSizeRow.holds Try.pinned (OpenSpec.ofChange fnExactClassSizeWrong)

/-- 'laws.FnExactRoundUpSize': WHATEVER THE INPUT: true; the input reads as it did. -/
def fnExactRoundUpSizeSpec : ChangeSpec := { name := "fnExactRoundUpSize", fn := fun _ => fun
  | [d] => { results := [.lit (.bool true)], args := [d] }
  | _ => none }
def fnExactRoundUpSizeRow : OpenClaim := { program := "ythkmjdiopmpjoaa", sum := "48cd8c25863b17bf77ef2ff40b14644fedfe6d62e5fb2a5725c0116abdc9ea51", func := "loop.example/g01921/laws.FnExactRoundUpSize", spec := "fnExactRoundUpSize", apart := false }
def FnExactRoundUpSizeSaid : Prop := fnExactRoundUpSizeRow.holds Try.pinned (OpenSpec.ofChange fnExactRoundUpSizeSpec)

/-- ITS FALSE NEIGHBOUR: 'it returns false'. Refute it at one input. -/
def fnExactRoundUpSizeWrong : ChangeSpec := { name := "fnExactRoundUpSize", fn := fun _ => fun
  | [d] => { results := [.lit (.bool false)], args := [d] }
  | _ => none }
def FnExactRoundUpSizeWrongFalsely : Prop := fnExactRoundUpSizeRow.holds Try.pinned (OpenSpec.ofChange fnExactRoundUpSizeWrong)

/-- 'laws.FnExactIsLocation': WHATEVER THE INPUT: true; the input reads as it did. -/
def fnExactIsLocationSpec : ChangeSpec := { name := "fnExactIsLocation", fn := fun _ => fun
  | [d] => { results := [.lit (.bool true)], args := [d] }
  | _ => none }
def fnExactIsLocationRow : OpenClaim := { program := "ythkmjdiopmpjoaa", sum := "48cd8c25863b17bf77ef2ff40b14644fedfe6d62e5fb2a5725c0116abdc9ea51", func := "loop.example/g01921/laws.FnExactIsLocation", spec := "fnExactIsLocation", apart := false }
def FnExactIsLocationSaid : Prop := fnExactIsLocationRow.holds Try.pinned (OpenSpec.ofChange fnExactIsLocationSpec)

/-- ITS FALSE NEIGHBOUR: 'it returns false'. Refute it at one input. -/
def fnExactIsLocationWrong : ChangeSpec := { name := "fnExactIsLocation", fn := fun _ => fun
  | [d] => { results := [.lit (.bool false)], args := [d] }
  | _ => none }
def FnExactIsLocationWrongFalsely : Prop := fnExactIsLocationRow.holds Try.pinned (OpenSpec.ofChange fnExactIsLocationWrong)

/-- 'laws.FnExactLocationSizes': WHATEVER THE INPUT: true; the input reads as it did. -/
def fnExactLocationSizesSpec : ChangeSpec := { name := "fnExactLocationSizes", fn := fun _ => fun
  | [d] => { results := [.lit (.bool true)], args := [d] }
  | _ => none }
def fnExactLocationSizesRow : OpenClaim := { program := "ythkmjdiopmpjoaa", sum := "48cd8c25863b17bf77ef2ff40b14644fedfe6d62e5fb2a5725c0116abdc9ea51", func := "loop.example/g01921/laws.FnExactLocationSizes", spec := "fnExactLocationSizes", unfollowed := true, recurses := true, apart := false }
def FnExactLocationSizesSaid : Prop := fnExactLocationSizesRow.holds Try.pinned (OpenSpec.ofChange fnExactLocationSizesSpec)

/-- ITS FALSE NEIGHBOUR: 'it returns false'. Refute it at one input. -/
def fnExactLocationSizesWrong : ChangeSpec := { name := "fnExactLocationSizes", fn := fun _ => fun
  | [d] => { results := [.lit (.bool false)], args := [d] }
  | _ => none }
def FnExactLocationSizesWrongFalsely : Prop := fnExactLocationSizesRow.holds Try.pinned (OpenSpec.ofChange fnExactLocationSizesWrong)

/-- 'laws.FnExactDominatesLocation': WHATEVER THE INPUT: true; the input reads as it did. -/
def fnExactDominatesLocationSpec : ChangeSpec := { name := "fnExactDominatesLocation", fn := fun _ => fun
  | [d1, d2] => { results := [.lit (.bool true)], args := [d1, d2] }
  | _ => none }
def fnExactDominatesLocationRow : OpenClaim := { program := "ythkmjdiopmpjoaa", sum := "48cd8c25863b17bf77ef2ff40b14644fedfe6d62e5fb2a5725c0116abdc9ea51", func := "loop.example/g01921/laws.FnExactDominatesLocation", spec := "fnExactDominatesLocation", apart := false }
def FnExactDominatesLocationSaid : Prop := fnExactDominatesLocationRow.holds Try.pinned (OpenSpec.ofChange fnExactDominatesLocationSpec)

/-- ITS FALSE NEIGHBOUR: 'it returns false'. Refute it at one input. -/
def fnExactDominatesLocationWrong : ChangeSpec := { name := "fnExactDominatesLocation", fn := fun _ => fun
  | [d1, d2] => { results := [.lit (.bool false)], args := [d1, d2] }
  | _ => none }
def FnExactDominatesLocationWrongFalsely : Prop := fnExactDominatesLocationRow.holds Try.pinned (OpenSpec.ofChange fnExactDominatesLocationWrong)

/-- 'laws.FnExactFormatLocation': WHATEVER THE INPUT: true; the input reads as it did. -/
def fnExactFormatLocationSpec : ChangeSpec := { name := "fnExactFormatLocation", fn := fun _ => fun
  | [d] => { results := [.lit (.bool true)], args := [d] }
  | _ => none }
def fnExactFormatLocationRow : OpenClaim := { program := "ythkmjdiopmpjoaa", sum := "48cd8c25863b17bf77ef2ff40b14644fedfe6d62e5fb2a5725c0116abdc9ea51", func := "loop.example/g01921/laws.FnExactFormatLocation", spec := "fnExactFormatLocation", unfollowed := true, recurses := true, apart := false }
def FnExactFormatLocationSaid : Prop := fnExactFormatLocationRow.holds Try.pinned (OpenSpec.ofChange fnExactFormatLocationSpec)

/-- ITS FALSE NEIGHBOUR: 'it returns false'. Refute it at one input. -/
def fnExactFormatLocationWrong : ChangeSpec := { name := "fnExactFormatLocation", fn := fun _ => fun
  | [d] => { results := [.lit (.bool false)], args := [d] }
  | _ => none }
def FnExactFormatLocationWrongFalsely : Prop := fnExactFormatLocationRow.holds Try.pinned (OpenSpec.ofChange fnExactFormatLocationWrong)

/-- 'laws.FnExactParseLocation': WHATEVER THE INPUT: true; the input reads as it did. -/
def fnExactParseLocationSpec : ChangeSpec := { name := "fnExactParseLocation", fn := fun _ => fun
  | [d] => { results := [.lit (.bool true)], args := [d] }
  | _ => none }
def fnExactParseLocationRow : OpenClaim := { program := "ythkmjdiopmpjoaa", sum := "48cd8c25863b17bf77ef2ff40b14644fedfe6d62e5fb2a5725c0116abdc9ea51", func := "loop.example/g01921/laws.FnExactParseLocation", spec := "fnExactParseLocation", unfollowed := true, recurses := true, apart := false }
def FnExactParseLocationSaid : Prop := fnExactParseLocationRow.holds Try.pinned (OpenSpec.ofChange fnExactParseLocationSpec)

/-- ITS FALSE NEIGHBOUR: 'it returns false'. Refute it at one input. -/
def fnExactParseLocationWrong : ChangeSpec := { name := "fnExactParseLocation", fn := fun _ => fun
  | [d] => { results := [.lit (.bool false)], args := [d] }
  | _ => none }
def FnExactParseLocationWrongFalsely : Prop := fnExactParseLocationRow.holds Try.pinned (OpenSpec.ofChange fnExactParseLocationWrong)

/- THE SECOND FORM. 'bulk': how many values and letters a reading holds, each counted each time it is reached (what is shared counts as often as it is met; a slice's spare places count too). A statement '..UptoSaid' is the law's where the arguments, and the package variables that the reading takes, are together of bulk at most 1048576: NARROWER than '..Said'. Prove '..Said' where nothing that the law and all that it calls make is longer than what came in: it says more and counts as full. Else prove '..UptoSaid'. A law counts once. -/
mutual
def uptoBulk {H : Type} : DataW H → Nat
  | .lit (.string bytes) => bytes.length + 1
  | .lit _ => 1
  | .nil => 1
  | .ptr d => uptoBulk d + 1
  | .slice elems spare => uptoBulkAll elems + uptoBulkAll spare + 1
  | .agg parts => uptoBulkAll parts + 1
  | .iface _ d => uptoBulk d + 1
  | .map entries => uptoBulkEntries entries + 1
  | .held _ => 1
def uptoBulkAll {H : Type} : List (DataW H) → Nat
  | [] => 0
  | d :: r => uptoBulk d + uptoBulkAll r
def uptoBulkEntries {H : Type} : List (Lit × DataW H) → Nat
  | [] => 0
  | x :: r => uptoBulkEntry x + uptoBulkEntries r
def uptoBulkEntry {H : Type} : Lit × DataW H → Nat
  | (.string bytes, d) => bytes.length + uptoBulk d + 1
  | (_, d) => uptoBulk d + 1
 end
def uptoSmall : (H : Type) → List (DataW H) → Bool := fun _ ds => decide (uptoBulkAll ds ≤ 1048576)
def OpenSpec.upto (s : _root_.Go.ChangeSpec) : _root_.Go.OpenSpec := { _root_.Go.OpenSpec.ofChange s with cond := some uptoSmall }

/-- 'laws.FnClasses', WHERE WHAT IT READS IS OF BULK AT MOST 1048576: true; the input reads as it did. -/
def fnClassesUptoRow : OpenClaim := { program := "ythkmjdiopmpjoaa", sum := "48cd8c25863b17bf77ef2ff40b14644fedfe6d62e5fb2a5725c0116abdc9ea51", func := "loop.example/g01921/laws.FnClasses", spec := "fnClasses", unfollowed := true, recurses := true, apart := false, narrowed := true }
def FnClassesUptoSaid : Prop := fnClassesUptoRow.holds Try.pinned (OpenSpec.upto fnClassesSpec)

/-- 'laws.FnExactSizeClass', WHERE WHAT IT READS IS OF BULK AT MOST 1048576: true; the input reads as it did. -/
def fnExactSizeClassUptoRow : OpenClaim := { program := "ythkmjdiopmpjoaa", sum := "48cd8c25863b17bf77ef2ff40b14644fedfe6d62e5fb2a5725c0116abdc9ea51", func := "loop.example/g01921/laws.FnExactSizeClass", spec := "fnExactSizeClass", apart := false, narrowed := true }
def FnExactSizeClassUptoSaid : Prop := fnExactSizeClassUptoRow.holds Try.pinned (OpenSpec.upto fnExactSizeClassSpec)

/-- 'laws.FnExactClassSize', WHERE WHAT IT READS IS OF BULK AT MOST 1048576: true; the input reads as it did. -/
def fnExactClassSizeUptoRow : OpenClaim := { program := "ythkmjdiopmpjoaa", sum := "48cd8c25863b17bf77ef2ff40b14644fedfe6d62e5fb2a5725c0116abdc9ea51", func := "loop.example/g01921/laws.FnExactClassSize", spec := "fnExactClassSize", apart := false, narrowed := true }
def FnExactClassSizeUptoSaid : Prop := fnExactClassSizeUptoRow.holds Try.pinned (OpenSpec.upto fnExactClassSizeSpec)

/-- 'laws.FnExactRoundUpSize', WHERE WHAT IT READS IS OF BULK AT MOST 1048576: true; the input reads as it did. -/
def fnExactRoundUpSizeUptoRow : OpenClaim := { program := "ythkmjdiopmpjoaa", sum := "48cd8c25863b17bf77ef2ff40b14644fedfe6d62e5fb2a5725c0116abdc9ea51", func := "loop.example/g01921/laws.FnExactRoundUpSize", spec := "fnExactRoundUpSize", apart := false, narrowed := true }
def FnExactRoundUpSizeUptoSaid : Prop := fnExactRoundUpSizeUptoRow.holds Try.pinned (OpenSpec.upto fnExactRoundUpSizeSpec)

/-- 'laws.FnExactIsLocation', WHERE WHAT IT READS IS OF BULK AT MOST 1048576: true; the input reads as it did. -/
def fnExactIsLocationUptoRow : OpenClaim := { program := "ythkmjdiopmpjoaa", sum := "48cd8c25863b17bf77ef2ff40b14644fedfe6d62e5fb2a5725c0116abdc9ea51", func := "loop.example/g01921/laws.FnExactIsLocation", spec := "fnExactIsLocation", apart := false, narrowed := true }
def FnExactIsLocationUptoSaid : Prop := fnExactIsLocationUptoRow.holds Try.pinned (OpenSpec.upto fnExactIsLocationSpec)

/-- 'laws.FnExactLocationSizes', WHERE WHAT IT READS IS OF BULK AT MOST 1048576: true; the input reads as it did. -/
def fnExactLocationSizesUptoRow : OpenClaim := { program := "ythkmjdiopmpjoaa", sum := "48cd8c25863b17bf77ef2ff40b14644fedfe6d62e5fb2a5725c0116abdc9ea51", func := "loop.example/g01921/laws.FnExactLocationSizes", spec := "fnExactLocationSizes", unfollowed := true, recurses := true, apart := false, narrowed := true }
def FnExactLocationSizesUptoSaid : Prop := fnExactLocationSizesUptoRow.holds Try.pinned (OpenSpec.upto fnExactLocationSizesSpec)

/-- 'laws.FnExactDominatesLocation', WHERE WHAT IT READS IS OF BULK AT MOST 1048576: true; the input reads as it did. -/
def fnExactDominatesLocationUptoRow : OpenClaim := { program := "ythkmjdiopmpjoaa", sum := "48cd8c25863b17bf77ef2ff40b14644fedfe6d62e5fb2a5725c0116abdc9ea51", func := "loop.example/g01921/laws.FnExactDominatesLocation", spec := "fnExactDominatesLocation", apart := false, narrowed := true }
def FnExactDominatesLocationUptoSaid : Prop := fnExactDominatesLocationUptoRow.holds Try.pinned (OpenSpec.upto fnExactDominatesLocationSpec)

/-- 'laws.FnExactFormatLocation', WHERE WHAT IT READS IS OF BULK AT MOST 1048576: true; the input reads as it did. -/
def fnExactFormatLocationUptoRow : OpenClaim := { program := "ythkmjdiopmpjoaa", sum := "48cd8c25863b17bf77ef2ff40b14644fedfe6d62e5fb2a5725c0116abdc9ea51", func := "loop.example/g01921/laws.FnExactFormatLocation", spec := "fnExactFormatLocation", unfollowed := true, recurses := true, apart := false, narrowed := true }
def FnExactFormatLocationUptoSaid : Prop := fnExactFormatLocationUptoRow.holds Try.pinned (OpenSpec.upto fnExactFormatLocationSpec)

/-- 'laws.FnExactParseLocation', WHERE WHAT IT READS IS OF BULK AT MOST 1048576: true; the input reads as it did. -/
def fnExactParseLocationUptoRow : OpenClaim := { program := "ythkmjdiopmpjoaa", sum := "48cd8c25863b17bf77ef2ff40b14644fedfe6d62e5fb2a5725c0116abdc9ea51", func := "loop.example/g01921/laws.FnExactParseLocation", spec := "fnExactParseLocation", unfollowed := true, recurses := true, apart := false, narrowed := true }
def FnExactParseLocationUptoSaid : Prop := fnExactParseLocationUptoRow.holds Try.pinned (OpenSpec.upto fnExactParseLocationSpec)

end Rows
end Go.Proofs.Ythkmjdiopmpjoaa
