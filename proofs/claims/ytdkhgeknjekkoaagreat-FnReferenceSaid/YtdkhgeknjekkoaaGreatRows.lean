/-
  No cell of these rows narrows 'for every input' (looked for: loops, veiled, ifaces, maps, wideKeys, modest, calm, conditions, laid).
  DERIVED. THE GIVEN ROWS OF THIS SEAT. 5 by the template 'for every input the law returns true; each argument reads behind the call as it read before'; 0 by the template 'total and deterministic' (their statements: YtdkhgeknjekkoaaGreatTotals.lean).
  GIVEN WITH THE SEED: the statements are not yours to turn. If you find one false, say at which input.
  Laid BY PROGRAM, IN A SANDBOX (cutbox-rows.mjs): the forced cells as the released guide's own fill.sh prints them over the translation e6b88114d1fef4e4… (all of the seat's roots in one cut). By AI agents, Wed Nov 11 2026. No macro, syntax, notation, axiom, sorry.
-/
import Derived.Test.YtdkhgeknjekkoaaGreatChecked
import GoSem.Claim
import GoSem.ClaimJoined
import GoSem.ClaimMapViews
import Derived.JoinedTies
import Derived.KernelRfl
namespace Go.Proofs.YtdkhgeknjekkoaaGreat
/- THE CELL 'sum', in the pinned program and in every row, IS THE sha256 OF THE DUMP (.gsa) THAT YtdkhgeknjekkoaaGreatProg.lean LOADS. Nothing in Lean hashes anything: it is a label: what it is worth is what the hold of that sum in a sandbox is worth. -/
noncomputable def Tryz.pinned : Pinned := { name := "ytdkhgeknjekkoaagreat", sum := "e6b88114d1fef4e437f4f1dd0c8a97be634e58b82af0d8430538d87958b59a13", checked := Tryz.checked }
namespace Rows
def none {H : Type} : Left H := { results := [], args := [] }

/-- 'laws.FnReference': WHATEVER THE INPUT: true; the input reads as it did. -/
def fnReferenceSpec : ChangeSpec := { name := "fnReference", fn := fun _ => fun
  | [d] => { results := [.lit (.bool true)], args := [d] }
  | _ => none }
def fnReferenceRow : OpenClaim := { program := "ytdkhgeknjekkoaagreat", sum := "e6b88114d1fef4e437f4f1dd0c8a97be634e58b82af0d8430538d87958b59a13", func := "loop.example/g01921/laws.FnReference", spec := "fnReference", inPlace := ["internal/abi.NoEscape", "internal/bytealg.MakeNoZero"], unfollowed := true, recurses := true, apart := false }
def FnReferenceSaid : Prop := fnReferenceRow.holds Tryz.pinned (OpenSpec.ofChange fnReferenceSpec)

/-- ITS FALSE NEIGHBOUR: 'it returns false'. Refute it at one input. -/
def fnReferenceWrong : ChangeSpec := { name := "fnReference", fn := fun _ => fun
  | [d] => { results := [.lit (.bool false)], args := [d] }
  | _ => none }
def FnReferenceWrongFalsely : Prop := fnReferenceRow.holds Tryz.pinned (OpenSpec.ofChange fnReferenceWrong)

/-- 'laws.FnExactEvaluateMask': WHATEVER THE INPUT: true; the input reads as it did. -/
def fnExactEvaluateMaskSpec : ChangeSpec := { name := "fnExactEvaluateMask", fn := fun _ => fun
  | [d1, d2, d3] => { results := [.lit (.bool true)], args := [d1, d2, d3] }
  | _ => none }
def fnExactEvaluateMaskRow : OpenClaim := { program := "ytdkhgeknjekkoaagreat", sum := "e6b88114d1fef4e437f4f1dd0c8a97be634e58b82af0d8430538d87958b59a13", func := "loop.example/g01921/laws.FnExactEvaluateMask", spec := "fnExactEvaluateMask", unfollowed := true, recurses := true, apart := false }
def FnExactEvaluateMaskSaid : Prop := fnExactEvaluateMaskRow.holds Tryz.pinned (OpenSpec.ofChange fnExactEvaluateMaskSpec)

/-- ITS FALSE NEIGHBOUR: 'it returns false'. Refute it at one input. -/
def fnExactEvaluateMaskWrong : ChangeSpec := { name := "fnExactEvaluateMask", fn := fun _ => fun
  | [d1, d2, d3] => { results := [.lit (.bool false)], args := [d1, d2, d3] }
  | _ => none }
def FnExactEvaluateMaskWrongFalsely : Prop := fnExactEvaluateMaskRow.holds Tryz.pinned (OpenSpec.ofChange fnExactEvaluateMaskWrong)

/-- 'laws.FnExactEvaluateQuery': WHATEVER THE INPUT: true; the input reads as it did. -/
def fnExactEvaluateQuerySpec : ChangeSpec := { name := "fnExactEvaluateQuery", fn := fun _ => fun
  | [d1, d2] => { results := [.lit (.bool true)], args := [d1, d2] }
  | _ => none }
def fnExactEvaluateQueryRow : OpenClaim := { program := "ytdkhgeknjekkoaagreat", sum := "e6b88114d1fef4e437f4f1dd0c8a97be634e58b82af0d8430538d87958b59a13", func := "loop.example/g01921/laws.FnExactEvaluateQuery", spec := "fnExactEvaluateQuery", unfollowed := true, recurses := true, apart := false }
def FnExactEvaluateQuerySaid : Prop := fnExactEvaluateQueryRow.holds Tryz.pinned (OpenSpec.ofChange fnExactEvaluateQuerySpec)

/-- ITS FALSE NEIGHBOUR: 'it returns false'. Refute it at one input. -/
def fnExactEvaluateQueryWrong : ChangeSpec := { name := "fnExactEvaluateQuery", fn := fun _ => fun
  | [d1, d2] => { results := [.lit (.bool false)], args := [d1, d2] }
  | _ => none }
def FnExactEvaluateQueryWrongFalsely : Prop := fnExactEvaluateQueryRow.holds Tryz.pinned (OpenSpec.ofChange fnExactEvaluateQueryWrong)

/-- 'laws.FnExactSubquerySize': WHATEVER THE INPUT: true; the input reads as it did. -/
def fnExactSubquerySizeSpec : ChangeSpec := { name := "fnExactSubquerySize", fn := fun _ => fun
  | [d1, d2, d3] => { results := [.lit (.bool true)], args := [d1, d2, d3] }
  | _ => none }
def fnExactSubquerySizeRow : OpenClaim := { program := "ytdkhgeknjekkoaagreat", sum := "e6b88114d1fef4e437f4f1dd0c8a97be634e58b82af0d8430538d87958b59a13", func := "loop.example/g01921/laws.FnExactSubquerySize", spec := "fnExactSubquerySize", unfollowed := true, recurses := true, apart := false }
def FnExactSubquerySizeSaid : Prop := fnExactSubquerySizeRow.holds Tryz.pinned (OpenSpec.ofChange fnExactSubquerySizeSpec)

/-- ITS FALSE NEIGHBOUR: 'it returns false'. Refute it at one input. -/
def fnExactSubquerySizeWrong : ChangeSpec := { name := "fnExactSubquerySize", fn := fun _ => fun
  | [d1, d2, d3] => { results := [.lit (.bool false)], args := [d1, d2, d3] }
  | _ => none }
def FnExactSubquerySizeWrongFalsely : Prop := fnExactSubquerySizeRow.holds Tryz.pinned (OpenSpec.ofChange fnExactSubquerySizeWrong)

/-- 'laws.FnExactTrueSizes': WHATEVER THE INPUT: true; the input reads as it did. -/
def fnExactTrueSizesSpec : ChangeSpec := { name := "fnExactTrueSizes", fn := fun _ => fun
  | [d1, d2] => { results := [.lit (.bool true)], args := [d1, d2] }
  | _ => none }
def fnExactTrueSizesRow : OpenClaim := { program := "ytdkhgeknjekkoaagreat", sum := "e6b88114d1fef4e437f4f1dd0c8a97be634e58b82af0d8430538d87958b59a13", func := "loop.example/g01921/laws.FnExactTrueSizes", spec := "fnExactTrueSizes", unfollowed := true, recurses := true, apart := false }
def FnExactTrueSizesSaid : Prop := fnExactTrueSizesRow.holds Tryz.pinned (OpenSpec.ofChange fnExactTrueSizesSpec)

/-- ITS FALSE NEIGHBOUR: 'it returns false'. Refute it at one input. -/
def fnExactTrueSizesWrong : ChangeSpec := { name := "fnExactTrueSizes", fn := fun _ => fun
  | [d1, d2] => { results := [.lit (.bool false)], args := [d1, d2] }
  | _ => none }
def FnExactTrueSizesWrongFalsely : Prop := fnExactTrueSizesRow.holds Tryz.pinned (OpenSpec.ofChange fnExactTrueSizesWrong)

/- THE SECOND FORM. 'bulk': how many values and letters a reading holds, each counted each time it is reached (what is shared counts as often as it is met; a slice's spare places count too). A statement '..UptoSaid' is the law's where the arguments, and the package variables that the reading takes, are together of bulk at most 1048576: NARROWER than '..Said'. Prove '..Said' where nothing that the law and all that it calls make is longer than what came in: it says more and counts as full. Else prove '..UptoSaid'. A law counts once. -/
mutual
def uptoBulk {H : Type} : DataW H → Nat
  | .lit (.string bytes) => bytes.length + 1
  | .lit _ => 1
  | .nil => 1
  | .ptr d => uptoBulk d + 1
  | .slice elems spare => uptoBulkAll elems + uptoBulkAll spare + 1
  | .agg parts => uptoBulkAll parts + 1
  | .iface _ d => uptoBulk d + 1
  | .map entries => uptoBulkEntries entries + 1
  | .held _ => 1
def uptoBulkAll {H : Type} : List (DataW H) → Nat
  | [] => 0
  | d :: r => uptoBulk d + uptoBulkAll r
def uptoBulkEntries {H : Type} : List (Lit × DataW H) → Nat
  | [] => 0
  | x :: r => uptoBulkEntry x + uptoBulkEntries r
def uptoBulkEntry {H : Type} : Lit × DataW H → Nat
  | (.string bytes, d) => bytes.length + uptoBulk d + 1
  | (_, d) => uptoBulk d + 1
 end
def uptoSmall : (H : Type) → List (DataW H) → Bool := fun _ ds => decide (uptoBulkAll ds ≤ 1048576)
def OpenSpec.upto (s : _root_.Go.ChangeSpec) : _root_.Go.OpenSpec := { _root_.Go.OpenSpec.ofChange s with cond := some uptoSmall }

/-- 'laws.FnReference', WHERE WHAT IT READS IS OF BULK AT MOST 1048576: true; the input reads as it did. -/
def fnReferenceUptoRow : OpenClaim := { program := "ytdkhgeknjekkoaagreat", sum := "e6b88114d1fef4e437f4f1dd0c8a97be634e58b82af0d8430538d87958b59a13", func := "loop.example/g01921/laws.FnReference", spec := "fnReference", inPlace := ["internal/abi.NoEscape", "internal/bytealg.MakeNoZero"], unfollowed := true, recurses := true, apart := false, narrowed := true }
def FnReferenceUptoSaid : Prop := fnReferenceUptoRow.holds Tryz.pinned (OpenSpec.upto fnReferenceSpec)

/-- 'laws.FnExactEvaluateMask', WHERE WHAT IT READS IS OF BULK AT MOST 1048576: true; the input reads as it did. -/
def fnExactEvaluateMaskUptoRow : OpenClaim := { program := "ytdkhgeknjekkoaagreat", sum := "e6b88114d1fef4e437f4f1dd0c8a97be634e58b82af0d8430538d87958b59a13", func := "loop.example/g01921/laws.FnExactEvaluateMask", spec := "fnExactEvaluateMask", unfollowed := true, recurses := true, apart := false, narrowed := true }
def FnExactEvaluateMaskUptoSaid : Prop := fnExactEvaluateMaskUptoRow.holds Tryz.pinned (OpenSpec.upto fnExactEvaluateMaskSpec)

/-- 'laws.FnExactEvaluateQuery', WHERE WHAT IT READS IS OF BULK AT MOST 1048576: true; the input reads as it did. -/
def fnExactEvaluateQueryUptoRow : OpenClaim := { program := "ytdkhgeknjekkoaagreat", sum := "e6b88114d1fef4e437f4f1dd0c8a97be634e58b82af0d8430538d87958b59a13", func := "loop.example/g01921/laws.FnExactEvaluateQuery", spec := "fnExactEvaluateQuery", unfollowed := true, recurses := true, apart := false, narrowed := true }
def FnExactEvaluateQueryUptoSaid : Prop := fnExactEvaluateQueryUptoRow.holds Tryz.pinned (OpenSpec.upto fnExactEvaluateQuerySpec)

/-- 'laws.FnExactSubquerySize', WHERE WHAT IT READS IS OF BULK AT MOST 1048576: true; the input reads as it did. -/
def fnExactSubquerySizeUptoRow : OpenClaim := { program := "ytdkhgeknjekkoaagreat", sum := "e6b88114d1fef4e437f4f1dd0c8a97be634e58b82af0d8430538d87958b59a13", func := "loop.example/g01921/laws.FnExactSubquerySize", spec := "fnExactSubquerySize", unfollowed := true, recurses := true, apart := false, narrowed := true }
def FnExactSubquerySizeUptoSaid : Prop := fnExactSubquerySizeUptoRow.holds Tryz.pinned (OpenSpec.upto fnExactSubquerySizeSpec)

/-- 'laws.FnExactTrueSizes', WHERE WHAT IT READS IS OF BULK AT MOST 1048576: true; the input reads as it did. -/
def fnExactTrueSizesUptoRow : OpenClaim := { program := "ytdkhgeknjekkoaagreat", sum := "e6b88114d1fef4e437f4f1dd0c8a97be634e58b82af0d8430538d87958b59a13", func := "loop.example/g01921/laws.FnExactTrueSizes", spec := "fnExactTrueSizes", unfollowed := true, recurses := true, apart := false, narrowed := true }
def FnExactTrueSizesUptoSaid : Prop := fnExactTrueSizesUptoRow.holds Tryz.pinned (OpenSpec.upto fnExactTrueSizesSpec)

end Rows
end Go.Proofs.YtdkhgeknjekkoaaGreat
