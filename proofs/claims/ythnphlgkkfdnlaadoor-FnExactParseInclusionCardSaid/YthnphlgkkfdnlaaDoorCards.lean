/-
  DERIVED. GIVEN WITH THE SEED: THE CARDS: each row of YthnphlgkkfdnlaaDoorRows.lean that lists a variable, with what it lists TIED to the program's text (the seventh form; the later family's looks); each row that meets fmt, with fmt's text TOLD by the authors' own Lean function (tested against real Go, not proved from fmt's source: count such statements apart). THE CARD IS WHAT COUNTS. Prove the row's statement (the work); the ties are given (YthnphlgkkfdnlaaDoorTie.lean); close each card by the builder's one call (the guide's Derived/Test/ToyasCard.lean, 'card_holds'). Laid BY PROGRAM, IN A SANDBOX (cutbox-door.mjs). By AI agents, Wed Nov 11 2026. No macro, syntax, notation, axiom, sorry.
-/
import Derived.Test.YthnphlgkkfdnlaaDoorRows
import GoSem.ClaimSeven
namespace Go.Proofs.YthnphlgkkfdnlaaDoor
namespace Rows

/-- THE TIED CARD OF 'laws.FnInclusions'. -/
def fnInclusionsCard : Claim7 := { stood := { row := fnInclusionsRow, standIns := [], harness := (true, "654b317f0818753c870b2352470265c6118f19dd082ce694db54e6f0f521a0e6"), looks := false }, kinds := [], alts := [], laidByText := true, laidKinds := [.data, .data, .data], laidTests := true, laidLooks := .later }
def FnInclusionsCardSaid : Prop := Claim7.holds Tryd.pinned (.plain (OpenSpec.ofChange fnInclusionsSpec)) fnInclusionsCard

/-- THE TIED CARD OF 'laws.FnExactParseInclusion'. -/
def fnExactParseInclusionCard : Claim7 := { stood := { row := fnExactParseInclusionRow, standIns := [], harness := (true, "654b317f0818753c870b2352470265c6118f19dd082ce694db54e6f0f521a0e6"), looks := false }, kinds := [], alts := [], laidByText := true, laidKinds := [.data, .data, .data], laidTests := true, laidLooks := .later }
def FnExactParseInclusionCardSaid : Prop := Claim7.holds Tryd.pinned (.plain (OpenSpec.ofChange fnExactParseInclusionSpec)) fnExactParseInclusionCard

/-- THE SECOND FORM's CARD OF 'laws.FnInclusions'. -/
def fnInclusionsUptoCard : Claim7 := { stood := { row := fnInclusionsUptoRow, standIns := [], harness := (true, "654b317f0818753c870b2352470265c6118f19dd082ce694db54e6f0f521a0e6"), looks := false }, kinds := [], alts := [], laidByText := true, laidKinds := [.data, .data, .data], laidTests := true, laidLooks := .later }
def FnInclusionsUptoCardSaid : Prop := Claim7.holds Tryd.pinned (.plain (OpenSpec.upto fnInclusionsSpec)) fnInclusionsUptoCard

/-- THE SECOND FORM's CARD OF 'laws.FnExactParseInclusion'. -/
def fnExactParseInclusionUptoCard : Claim7 := { stood := { row := fnExactParseInclusionUptoRow, standIns := [], harness := (true, "654b317f0818753c870b2352470265c6118f19dd082ce694db54e6f0f521a0e6"), looks := false }, kinds := [], alts := [], laidByText := true, laidKinds := [.data, .data, .data], laidTests := true, laidLooks := .later }
def FnExactParseInclusionUptoCardSaid : Prop := Claim7.holds Tryd.pinned (.plain (OpenSpec.upto fnExactParseInclusionSpec)) fnExactParseInclusionUptoCard
end Rows
end Go.Proofs.YthnphlgkkfdnlaaDoor
