/- Databases: the program's count of rows and its equality. -/
import Derived.Test.YtnoennmhifmolaaDbImp1
import Derived.Test.YtnoennmhifmolaaDbLook
namespace Go.Proofs.Ytnoennmhifmolaa.DbImp
open Go Go.RowKit Byt Ints IntsLaw Cd Rows2 Tab SlMath TabOpen TabElem SlTable Db TabSpec DbMath TabImp
open DbSpec (LaterD drewD row1 rows_cell cntRows_succ cntRows_take cntRows_le name_cell sameT_iff take_ne take_eq)

/-- The cells of an element. -/
theorem elem_form {w : World} {S : Nat → Prop} {us : List Value} {T : T3} (h : tabC.rd w S us T) : ∃ a c, us = [.string T.1, .int .i64 T.2.1, .slice a T.2.2.length c] := by
  obtain ⟨u, rfl, _, _, h3⟩ := tab_cells h
  obtain ⟨a, c, rfl, _⟩ := rows_form h3
  exact ⟨a, c, rfl⟩

end Go.Proofs.Ytnoennmhifmolaa.DbImp
