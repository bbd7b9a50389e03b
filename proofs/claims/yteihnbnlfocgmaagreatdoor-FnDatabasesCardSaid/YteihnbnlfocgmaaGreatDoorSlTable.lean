/- What the exact laws do with slices of Table: sized, copied, compared. -/
import Derived.Test.YteihnbnlfocgmaaGreatDoorTabElem
import Derived.Test.YteihnbnlfocgmaaGreatDoorSlMath
namespace Go.Proofs.YteihnbnlfocgmaaGreatDoor.SlTable
open Go Go.RowKit Byt Ints IntsLaw Cd Rows2 Tab SlMath TabOpen TabElem
theorem len_list {us : List Value} (h : us.length = 3) : ∃ x0 x1 x2, us = [x0, x1, x2] := by
  match us, h with
  | [x0, x1, x2], _ => exact ⟨x0, x1, x2, rfl⟩
/-- The size of a slice, as the laws count it. -/
def wtS (l : List T3) : Nat := l.length + sumN wtT l

theorem info_x : (Tryz.prog.info? 29).map (fun i => (i.zero, i.size, i.bytes)) = some (some (.agg #[.string ⟨#[]⟩, .int .i64 0, .slice none 0 0]), 3, 48) := by kernel_rfl

end Go.Proofs.YteihnbnlfocgmaaGreatDoor.SlTable
