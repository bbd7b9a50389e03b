/- What the exact laws do with one table, said of its cells. -/
import Derived.Test.YteihnbnlfocgmaaGreatDoorTab
import Derived.Test.YteihnbnlfocgmaaGreatDoorTabOpen
import Derived.Test.YteihnbnlfocgmaaGreatDoorSlMath
namespace Go.Proofs.YteihnbnlfocgmaaGreatDoor.TabElem
open Go Go.RowKit Byt Ints IntsLaw Cd Rows2 Tab TabOpen

abbrev T3 := ByteArray × Int × List (List Int)
def wtT (T : T3) : Nat := tabWt T.1 T.2.2
/-- A table that the call owns. -/
theorem tab_ow {w : World} {base : Nat} {nm : ByteArray} {ar : Int} {u : Value} {rows : List (List Int)} {fp : List Nat} (h : rowsC.ow w base [u] rows fp) (hs : nm.size ≤ maxLen) (ha : -9223372036854775808 ≤ ar ∧ ar ≤ 9223372036854775807) : tabC.ow w base [.string nm, .int .i64 ar, u] (nm, ar, rows) fp :=
  ⟨[.string nm], [.int .i64 ar, u], [], fp, rfl, by simp, ⟨rfl, hs, rfl⟩, ⟨[.int .i64 ar], [u], [], fp, rfl, by simp, ⟨rfl, ha, rfl⟩, h⟩⟩
theorem shape_ow {w : World} {base : Nat} {us : List Value} {T : T3} {fp : List Nat} (h : tabC.ow w base us T fp) : ∃ a c, us = [.string T.1, .int .i64 T.2.1, .slice a T.2.2.length c] := by
  obtain ⟨u, rfl, _, _, h3⟩ := tab_cells (tabC.ow_rd h)
  obtain ⟨a, c, rfl, _⟩ := rows_form h3
  exact ⟨a, c, rfl⟩
end Go.Proofs.YteihnbnlfocgmaaGreatDoor.TabElem
