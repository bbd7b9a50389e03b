/-
  DERIVED. GIVEN WITH THE SEED: THE CARDS: each row of YtkmhfgedbkkihaaDoorRows.lean that lists a variable, with what it lists TIED to the program's text (the seventh form; the later family's looks); each row that meets fmt, with fmt's text TOLD by the authors' own Lean function (tested against real Go, not proved from fmt's source: count such statements apart). THE CARD IS WHAT COUNTS. Prove the row's statement (the work); the ties are given (YtkmhfgedbkkihaaDoorTie.lean); close each card by the builder's one call (the guide's Derived/Test/ToyasCard.lean, 'card_holds'). Laid BY PROGRAM, IN A SANDBOX (cutbox-door.mjs). By AI agents, Wed Nov 11 2026. No macro, syntax, notation, axiom, sorry.
-/
import Derived.Test.YtkmhfgedbkkihaaDoorRows
import GoSem.ClaimSeven
namespace Go.Proofs.YtkmhfgedbkkihaaDoor
namespace Rows

/-- THE TIED CARD OF 'laws.FnRationals'. -/
def fnRationalsCard : Claim7 := { stood := { row := fnRationalsRow, standIns := [], harness := (true, "bb955fa4fdd1e69d63a3321464abd876caafea3932d3651e7f3527f737b0cfb9"), looks := true }, kinds := [], alts := [], laidByText := true, laidKinds := [.data, .data, .data, .sentinel, .sentinel], laidTests := true, laidLooks := .later }
def FnRationalsCardSaid : Prop := Claim7.holds Tryd.pinned (.plain (OpenSpec.ofChange fnRationalsSpec)) fnRationalsCard

/-- THE TIED CARD OF 'laws.FnExactFormatRational'. -/
def fnExactFormatRationalCard : Claim7 := { stood := { row := fnExactFormatRationalRow, standIns := [], harness := (true, "bb955fa4fdd1e69d63a3321464abd876caafea3932d3651e7f3527f737b0cfb9"), looks := true }, kinds := [], alts := [], laidByText := true, laidKinds := [.data, .data, .data], laidTests := true, laidLooks := .later }
def FnExactFormatRationalCardSaid : Prop := Claim7.holds Tryd.pinned (.plain (OpenSpec.ofChange fnExactFormatRationalSpec)) fnExactFormatRationalCard

/-- THE TIED CARD OF 'laws.FnExactParseRational'. -/
def fnExactParseRationalCard : Claim7 := { stood := { row := fnExactParseRationalRow, standIns := [], harness := (true, "bb955fa4fdd1e69d63a3321464abd876caafea3932d3651e7f3527f737b0cfb9"), looks := true }, kinds := [], alts := [], laidByText := true, laidKinds := [.data, .data, .data, .sentinel, .sentinel], laidTests := true, laidLooks := .later }
def FnExactParseRationalCardSaid : Prop := Claim7.holds Tryd.pinned (.plain (OpenSpec.ofChange fnExactParseRationalSpec)) fnExactParseRationalCard

/-- THE SECOND FORM's CARD OF 'laws.FnRationals'. -/
def fnRationalsUptoCard : Claim7 := { stood := { row := fnRationalsUptoRow, standIns := [], harness := (true, "bb955fa4fdd1e69d63a3321464abd876caafea3932d3651e7f3527f737b0cfb9"), looks := true }, kinds := [], alts := [], laidByText := true, laidKinds := [.data, .data, .data, .sentinel, .sentinel], laidTests := true, laidLooks := .later }
def FnRationalsUptoCardSaid : Prop := Claim7.holds Tryd.pinned (.plain (OpenSpec.upto fnRationalsSpec)) fnRationalsUptoCard

/-- THE SECOND FORM's CARD OF 'laws.FnExactFormatRational'. -/
def fnExactFormatRationalUptoCard : Claim7 := { stood := { row := fnExactFormatRationalUptoRow, standIns := [], harness := (true, "bb955fa4fdd1e69d63a3321464abd876caafea3932d3651e7f3527f737b0cfb9"), looks := true }, kinds := [], alts := [], laidByText := true, laidKinds := [.data, .data, .data], laidTests := true, laidLooks := .later }
def FnExactFormatRationalUptoCardSaid : Prop := Claim7.holds Tryd.pinned (.plain (OpenSpec.upto fnExactFormatRationalSpec)) fnExactFormatRationalUptoCard

/-- THE SECOND FORM's CARD OF 'laws.FnExactParseRational'. -/
def fnExactParseRationalUptoCard : Claim7 := { stood := { row := fnExactParseRationalUptoRow, standIns := [], harness := (true, "bb955fa4fdd1e69d63a3321464abd876caafea3932d3651e7f3527f737b0cfb9"), looks := true }, kinds := [], alts := [], laidByText := true, laidKinds := [.data, .data, .data, .sentinel, .sentinel], laidTests := true, laidLooks := .later }
def FnExactParseRationalUptoCardSaid : Prop := Claim7.holds Tryd.pinned (.plain (OpenSpec.upto fnExactParseRationalSpec)) fnExactParseRationalUptoCard
end Rows
end Go.Proofs.YtkmhfgedbkkihaaDoor
