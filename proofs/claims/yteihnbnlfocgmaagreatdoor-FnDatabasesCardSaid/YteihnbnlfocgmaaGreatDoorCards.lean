/-
  DERIVED. GIVEN WITH THE SEED: THE CARDS: each row of YteihnbnlfocgmaaGreatDoorRows.lean that lists a variable, with what it lists TIED to the program's text (the seventh form; the later family's looks); each row that meets fmt, with fmt's text TOLD by the authors' own Lean function (tested against real Go, not proved from fmt's source: count such statements apart). THE CARD IS WHAT COUNTS. Prove the row's statement (the work); the ties are given (YteihnbnlfocgmaaGreatDoorTie.lean); close each card by the builder's one call (the guide's Derived/Test/ToyasCard.lean, 'card_holds'). Laid BY PROGRAM, IN A SANDBOX (cutbox-door.mjs). By AI agents, Wed Nov 11 2026. No macro, syntax, notation, axiom, sorry.
-/
import Derived.Test.YteihnbnlfocgmaaGreatDoorRows
import GoSem.ClaimSeven
namespace Go.Proofs.YteihnbnlfocgmaaGreatDoor
namespace Rows

/-- THE TIED CARD OF 'laws.FnDatabases'. -/
def fnDatabasesCard : Claim7 := { stood := { row := fnDatabasesRow, standIns := [], harness := (true, "eda8cca02ce5c53db3d07b12b71fabafd507edd15496b8f59d4cc49542c26dbc"), looks := false }, kinds := [], alts := [], laidByText := true, laidKinds := [.data, .data, .data, .data, .listed, .data, .pinned], laidTests := true, laidLooks := .later }
def FnDatabasesCardSaid : Prop := Claim7.holds Tryz.pinned (.plain (OpenSpec.ofChange fnDatabasesSpec)) fnDatabasesCard

/-- THE SECOND FORM's CARD OF 'laws.FnDatabases'. -/
def fnDatabasesUptoCard : Claim7 := { stood := { row := fnDatabasesUptoRow, standIns := [], harness := (true, "eda8cca02ce5c53db3d07b12b71fabafd507edd15496b8f59d4cc49542c26dbc"), looks := false }, kinds := [], alts := [], laidByText := true, laidKinds := [.data, .data, .data, .data, .listed, .data, .pinned], laidTests := true, laidLooks := .later }
def FnDatabasesUptoCardSaid : Prop := Claim7.holds Tryz.pinned (.plain (OpenSpec.upto fnDatabasesSpec)) fnDatabasesUptoCard
end Rows
end Go.Proofs.YteihnbnlfocgmaaGreatDoor
