/- What the exact laws do with slices of Atom: sized, copied, compared. -/
import Derived.Test.YtdkhgeknjekkoaaGreatAtom
import Derived.Test.YtdkhgeknjekkoaaGreatSlMath
namespace Go.Proofs.YtdkhgeknjekkoaaGreat.SlAtom
open Go Go.RowKit Byt Ints IntsLaw Cd Rows2 Tab SlMath Atom
theorem len_list {us : List Value} (h : us.length = 2) : ∃ x0 x1, us = [x0, x1] := by
  match us, h with
  | [x0, x1], _ => exact ⟨x0, x1, rfl⟩
/-- The size of a slice, as the laws count it. -/
def wtS (l : List A2) : Nat := l.length + sumN wtA l

theorem info_x : (Tryz.prog.info? 48).map (fun i => (i.zero, i.size, i.bytes)) = some (some (.agg #[.string ⟨#[]⟩, .slice none 0 0]), 2, 40) := by kernel_rfl
end Go.Proofs.YtdkhgeknjekkoaaGreat.SlAtom
