/- What the exact laws do with slices of atoms: marked. -/
import Derived.Test.YtdkhgeknjekkoaaGreatSlAtom
import Derived.Test.YtdkhgeknjekkoaaGreatMark
import Derived.Test.YtdkhgeknjekkoaaGreatMkTable
namespace Go.Proofs.YtdkhgeknjekkoaaGreat.MkAtom
open Go Go.RowKit Byt Ints IntsLaw Cd Rows2 Tab TabSpec Exact SlMath Atom Mark
open SlTable (heap_same touch_cell)

def atomsC : Cd (List A2) := Cd.sl 48 atomC
end Go.Proofs.YtdkhgeknjekkoaaGreat.MkAtom
