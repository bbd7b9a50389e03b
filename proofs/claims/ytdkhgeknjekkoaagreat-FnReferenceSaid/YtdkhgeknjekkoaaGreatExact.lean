/- The helpers of the exact laws in one form, whatever the type: copied, compared, marked, looked at. -/
import Derived.Test.YtdkhgeknjekkoaaGreatTabCopy
namespace Go.Proofs.YtdkhgeknjekkoaaGreat.Exact
open Go Go.RowKit Byt Ints IntsLaw Cd Rows2 Tab TabSpec

theorem loc_drew {w : World} {X : Nat} {a b c : Value} (h : Loc3 w X a b c) : Loc3 w.drew X a b c := ⟨h.c0, h.c1, h.c2, h.f0, h.f1, h.f2⟩
theorem undrew {w w' : World} (h : Below w.drew.heap.size w.drew w') : Below w.heap.size w w' := ⟨h.os, h.tape, h.output, h.size, h.block⟩
end Go.Proofs.YtdkhgeknjekkoaaGreat.Exact
