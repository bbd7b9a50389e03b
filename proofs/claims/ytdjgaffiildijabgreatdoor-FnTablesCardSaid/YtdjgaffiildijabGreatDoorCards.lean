/-
  DERIVED. GIVEN WITH THE SEED: THE CARDS: each row of YtdjgaffiildijabGreatDoorRows.lean that lists a variable, with what it lists TIED to the program's text (the seventh form; the later family's looks); each row that meets fmt, with fmt's text TOLD by the authors' own Lean function (tested against real Go, not proved from fmt's source: count such statements apart). THE CARD IS WHAT COUNTS. Prove the row's statement (the work); the ties are given (YtdjgaffiildijabGreatDoorTie.lean); close each card by the builder's one call (the guide's Derived/Test/ToyasCard.lean, 'card_holds'). Laid BY PROGRAM, IN A SANDBOX (cutbox-door.mjs). By AI agents, Wed Nov 11 2026. No macro, syntax, notation, axiom, sorry.
-/
import Derived.Test.YtdjgaffiildijabGreatDoorRows
import GoSem.ClaimSeven
namespace Go.Proofs.YtdjgaffiildijabGreatDoor
namespace Rows

/-- THE TIED CARD OF 'laws.FnExactParseDatabase'. -/
def fnExactParseDatabaseCard : Claim7 := { stood := { row := fnExactParseDatabaseRow, standIns := [], harness := (true, "821b9f153a106fc430e4a84b02bfe727b2ce8d7877e5a357009fe513b5b30449"), looks := false }, kinds := [], alts := [], laidByText := true, laidKinds := [.data, .data, .data, .data, .listed, .data, .pinned], laidTests := true, laidLooks := .later }
def FnExactParseDatabaseCardSaid : Prop := Claim7.holds Tryz.pinned (.plain (OpenSpec.ofChange fnExactParseDatabaseSpec)) fnExactParseDatabaseCard

/-- THE TIED CARD OF 'laws.FnTables'. -/
def fnTablesCard : Claim7 := { stood := { row := fnTablesRow, standIns := [], harness := (true, "821b9f153a106fc430e4a84b02bfe727b2ce8d7877e5a357009fe513b5b30449"), looks := false }, kinds := [], alts := [], laidByText := true, laidKinds := [.data, .data, .data, .listed, .data], laidTests := true, laidLooks := .later }
def FnTablesCardSaid : Prop := Claim7.holds Tryz.pinned (.plain (OpenSpec.ofChange fnTablesSpec)) fnTablesCard

/-- THE TIED CARD OF 'laws.FnDatabases'. -/
def fnDatabasesCard : Claim7 := { stood := { row := fnDatabasesRow, standIns := [], harness := (true, "821b9f153a106fc430e4a84b02bfe727b2ce8d7877e5a357009fe513b5b30449"), looks := false }, kinds := [], alts := [], laidByText := true, laidKinds := [.data, .data, .data, .data, .listed, .data, .pinned], laidTests := true, laidLooks := .later }
def FnDatabasesCardSaid : Prop := Claim7.holds Tryz.pinned (.plain (OpenSpec.ofChange fnDatabasesSpec)) fnDatabasesCard

/-- THE SECOND FORM's CARD OF 'laws.FnExactParseDatabase'. -/
def fnExactParseDatabaseUptoCard : Claim7 := { stood := { row := fnExactParseDatabaseUptoRow, standIns := [], harness := (true, "821b9f153a106fc430e4a84b02bfe727b2ce8d7877e5a357009fe513b5b30449"), looks := false }, kinds := [], alts := [], laidByText := true, laidKinds := [.data, .data, .data, .data, .listed, .data, .pinned], laidTests := true, laidLooks := .later }
def FnExactParseDatabaseUptoCardSaid : Prop := Claim7.holds Tryz.pinned (.plain (OpenSpec.upto fnExactParseDatabaseSpec)) fnExactParseDatabaseUptoCard

/-- THE SECOND FORM's CARD OF 'laws.FnTables'. -/
def fnTablesUptoCard : Claim7 := { stood := { row := fnTablesUptoRow, standIns := [], harness := (true, "821b9f153a106fc430e4a84b02bfe727b2ce8d7877e5a357009fe513b5b30449"), looks := false }, kinds := [], alts := [], laidByText := true, laidKinds := [.data, .data, .data, .listed, .data], laidTests := true, laidLooks := .later }
def FnTablesUptoCardSaid : Prop := Claim7.holds Tryz.pinned (.plain (OpenSpec.upto fnTablesSpec)) fnTablesUptoCard

/-- THE SECOND FORM's CARD OF 'laws.FnDatabases'. -/
def fnDatabasesUptoCard : Claim7 := { stood := { row := fnDatabasesUptoRow, standIns := [], harness := (true, "821b9f153a106fc430e4a84b02bfe727b2ce8d7877e5a357009fe513b5b30449"), looks := false }, kinds := [], alts := [], laidByText := true, laidKinds := [.data, .data, .data, .data, .listed, .data, .pinned], laidTests := true, laidLooks := .later }
def FnDatabasesUptoCardSaid : Prop := Claim7.holds Tryz.pinned (.plain (OpenSpec.upto fnDatabasesSpec)) fnDatabasesUptoCard
end Rows
end Go.Proofs.YtdjgaffiildijabGreatDoor
