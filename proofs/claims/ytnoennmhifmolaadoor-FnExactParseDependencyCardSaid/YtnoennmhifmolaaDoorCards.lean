/-
  DERIVED. GIVEN WITH THE SEED: THE CARDS: each row of YtnoennmhifmolaaDoorRows.lean that lists a variable, with what it lists TIED to the program's text (the seventh form; the later family's looks); each row that meets fmt, with fmt's text TOLD by the authors' own Lean function (tested against real Go, not proved from fmt's source: count such statements apart). THE CARD IS WHAT COUNTS. Prove the row's statement (the work); the ties are given (YtnoennmhifmolaaDoorTie.lean); close each card by the builder's one call (the guide's Derived/Test/ToyasCard.lean, 'card_holds'). Laid BY PROGRAM, IN A SANDBOX (cutbox-door.mjs). By AI agents, Wed Nov 11 2026. No macro, syntax, notation, axiom, sorry.
-/
import Derived.Test.YtnoennmhifmolaaDoorRows
import GoSem.ClaimSeven
namespace Go.Proofs.YtnoennmhifmolaaDoor
namespace Rows

/-- THE TIED CARD OF 'laws.FnInclusions'. -/
def fnInclusionsCard : Claim7 := { stood := { row := fnInclusionsRow, standIns := [], harness := (true, "8e0267814387cbc18bc0440229bcdf293298596f691e818bb99cdccae3bd4ae6"), looks := false }, kinds := [], alts := [], laidByText := true, laidKinds := [.data, .data, .data], laidTests := true, laidLooks := .later }
def FnInclusionsCardSaid : Prop := Claim7.holds Tryd.pinned (.plain (OpenSpec.ofChange fnInclusionsSpec)) fnInclusionsCard

/-- THE TIED CARD OF 'laws.FnExactFormatDependency'. -/
def fnExactFormatDependencyCard : Claim7 := { stood := { row := fnExactFormatDependencyRow, standIns := [], harness := (true, "8e0267814387cbc18bc0440229bcdf293298596f691e818bb99cdccae3bd4ae6"), looks := false }, kinds := [], alts := [], laidByText := true, laidKinds := [.data, .data, .data], laidTests := true, laidLooks := .later }
def FnExactFormatDependencyCardSaid : Prop := Claim7.holds Tryd.pinned (.plain (OpenSpec.ofChange fnExactFormatDependencySpec)) fnExactFormatDependencyCard

/-- THE TIED CARD OF 'laws.FnExactParseDependency'. -/
def fnExactParseDependencyCard : Claim7 := { stood := { row := fnExactParseDependencyRow, standIns := [], harness := (true, "8e0267814387cbc18bc0440229bcdf293298596f691e818bb99cdccae3bd4ae6"), looks := false }, kinds := [], alts := [], laidByText := true, laidKinds := [.data, .data, .data], laidTests := true, laidLooks := .later }
def FnExactParseDependencyCardSaid : Prop := Claim7.holds Tryd.pinned (.plain (OpenSpec.ofChange fnExactParseDependencySpec)) fnExactParseDependencyCard

/-- THE TIED CARD OF 'laws.FnExactFormatInclusion'. -/
def fnExactFormatInclusionCard : Claim7 := { stood := { row := fnExactFormatInclusionRow, standIns := [], harness := (true, "8e0267814387cbc18bc0440229bcdf293298596f691e818bb99cdccae3bd4ae6"), looks := false }, kinds := [], alts := [], laidByText := true, laidKinds := [.data, .data, .data], laidTests := true, laidLooks := .later }
def FnExactFormatInclusionCardSaid : Prop := Claim7.holds Tryd.pinned (.plain (OpenSpec.ofChange fnExactFormatInclusionSpec)) fnExactFormatInclusionCard

/-- THE SECOND FORM's CARD OF 'laws.FnInclusions'. -/
def fnInclusionsUptoCard : Claim7 := { stood := { row := fnInclusionsUptoRow, standIns := [], harness := (true, "8e0267814387cbc18bc0440229bcdf293298596f691e818bb99cdccae3bd4ae6"), looks := false }, kinds := [], alts := [], laidByText := true, laidKinds := [.data, .data, .data], laidTests := true, laidLooks := .later }
def FnInclusionsUptoCardSaid : Prop := Claim7.holds Tryd.pinned (.plain (OpenSpec.upto fnInclusionsSpec)) fnInclusionsUptoCard

/-- THE SECOND FORM's CARD OF 'laws.FnExactFormatDependency'. -/
def fnExactFormatDependencyUptoCard : Claim7 := { stood := { row := fnExactFormatDependencyUptoRow, standIns := [], harness := (true, "8e0267814387cbc18bc0440229bcdf293298596f691e818bb99cdccae3bd4ae6"), looks := false }, kinds := [], alts := [], laidByText := true, laidKinds := [.data, .data, .data], laidTests := true, laidLooks := .later }
def FnExactFormatDependencyUptoCardSaid : Prop := Claim7.holds Tryd.pinned (.plain (OpenSpec.upto fnExactFormatDependencySpec)) fnExactFormatDependencyUptoCard

/-- THE SECOND FORM's CARD OF 'laws.FnExactParseDependency'. -/
def fnExactParseDependencyUptoCard : Claim7 := { stood := { row := fnExactParseDependencyUptoRow, standIns := [], harness := (true, "8e0267814387cbc18bc0440229bcdf293298596f691e818bb99cdccae3bd4ae6"), looks := false }, kinds := [], alts := [], laidByText := true, laidKinds := [.data, .data, .data], laidTests := true, laidLooks := .later }
def FnExactParseDependencyUptoCardSaid : Prop := Claim7.holds Tryd.pinned (.plain (OpenSpec.upto fnExactParseDependencySpec)) fnExactParseDependencyUptoCard

/-- THE SECOND FORM's CARD OF 'laws.FnExactFormatInclusion'. -/
def fnExactFormatInclusionUptoCard : Claim7 := { stood := { row := fnExactFormatInclusionUptoRow, standIns := [], harness := (true, "8e0267814387cbc18bc0440229bcdf293298596f691e818bb99cdccae3bd4ae6"), looks := false }, kinds := [], alts := [], laidByText := true, laidKinds := [.data, .data, .data], laidTests := true, laidLooks := .later }
def FnExactFormatInclusionUptoCardSaid : Prop := Claim7.holds Tryd.pinned (.plain (OpenSpec.upto fnExactFormatInclusionSpec)) fnExactFormatInclusionUptoCard
end Rows
end Go.Proofs.YtnoennmhifmolaaDoor
