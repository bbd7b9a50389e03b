/- What arguments of the laws read as: slices of ints, slices of those, tables. -/
import Derived.Test.YtdkhgeknjekkoaaGreatFits
import Derived.Test.YtdkhgeknjekkoaaGreatRows2
namespace Go.Proofs.YtdkhgeknjekkoaaGreat.TabOpen
open Go Go.RowKit Byt Ints Cd Rows2 Fits

def tabC : Cd (ByteArray × Int × List (List Int)) := Cd.pair Cd.str (Cd.pair Cd.int rowsC)
set_option maxRecDepth 100000 in
theorem tab_cells {w : World} {S : Nat → Prop} {cs : List Value} {T : ByteArray × Int × List (List Int)} (h : tabC.rd w S cs T) :
    ∃ u, cs = [.string T.1, .int .i64 T.2.1, u] ∧ T.1.size ≤ maxLen ∧ (-9223372036854775808 ≤ T.2.1 ∧ T.2.1 ≤ 9223372036854775807) ∧ rowsC.rd w S [u] T.2.2 := by
  obtain ⟨u1, u2, rfl, ⟨rfl, h1⟩, u3, u4, rfl, ⟨rfl, h2⟩, h3⟩ := h
  have hl := rowsC.len h3
  match u4, hl with
  | [u], _ => exact ⟨u, rfl, h1, h2, h3⟩
end Go.Proofs.YtdkhgeknjekkoaaGreat.TabOpen
