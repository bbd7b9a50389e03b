/-
  DERIVED. GIVEN WITH THE SEED: THE CARDS: each row of YtjfpbbimkggodaaDoorRows.lean that lists a variable, with what it lists TIED to the program's text (the seventh form; the later family's looks); each row that meets fmt, with fmt's text TOLD by the authors' own Lean function (tested against real Go, not proved from fmt's source: count such statements apart). THE CARD IS WHAT COUNTS. Prove the row's statement (the work); the ties are given (YtjfpbbimkggodaaDoorTie.lean); close each card by the builder's one call (the guide's Derived/Test/ToyasCard.lean, 'card_holds'). Laid BY PROGRAM, IN A SANDBOX (cutbox-door.mjs). By AI agents, Wed Nov 11 2026. No macro, syntax, notation, axiom, sorry.
-/
import Derived.Test.YtjfpbbimkggodaaDoorRows
import GoSem.ClaimSeven
namespace Go.Proofs.YtjfpbbimkggodaaDoor
namespace Rows

/-- THE TIED CARD OF 'laws.FnExactFormatDatabase'. -/
def fnExactFormatDatabaseCard : Claim7 := { stood := { row := fnExactFormatDatabaseRow, standIns := [], harness := (true, "8ef8c006f353bd1283fa8e54de6f1bdf0d3ae4835e6aa4e0fc4286735734a15d"), looks := false }, kinds := [], alts := [], laidByText := true, laidKinds := [.data, .data, .data], laidTests := true, laidLooks := .later }
def FnExactFormatDatabaseCardSaid : Prop := Claim7.holds Tryd.pinned (.plain (OpenSpec.ofChange fnExactFormatDatabaseSpec)) fnExactFormatDatabaseCard

/-- THE SECOND FORM's CARD OF 'laws.FnExactFormatDatabase'. -/
def fnExactFormatDatabaseUptoCard : Claim7 := { stood := { row := fnExactFormatDatabaseUptoRow, standIns := [], harness := (true, "8ef8c006f353bd1283fa8e54de6f1bdf0d3ae4835e6aa4e0fc4286735734a15d"), looks := false }, kinds := [], alts := [], laidByText := true, laidKinds := [.data, .data, .data], laidTests := true, laidLooks := .later }
def FnExactFormatDatabaseUptoCardSaid : Prop := Claim7.holds Tryd.pinned (.plain (OpenSpec.upto fnExactFormatDatabaseSpec)) fnExactFormatDatabaseUptoCard
end Rows
end Go.Proofs.YtjfpbbimkggodaaDoor
