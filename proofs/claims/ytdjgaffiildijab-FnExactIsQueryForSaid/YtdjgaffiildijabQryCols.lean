/- Queries: the columns of given variables, a list of a bit set: the model's functions and the program's. -/
import Derived.Test.YtdjgaffiildijabQrySpec1
import Derived.Test.YtdjgaffiildijabShelf
import Derived.Maps.OwnSet
import Derived.Maps.OwnOps
namespace Go.Proofs.Ytdjgaffiildijab.QrySpec
open Go Go.RowKit Byt Ints IntsLaw Cd Rows2 Tab TabSpec Exact Atom QryMath
open Go.Maps (Keyed int_keyed IsMap Tidy)



end Go.Proofs.Ytdjgaffiildijab.QrySpec
