/- What the exact laws do with databases: sized, copied, compared, marked, looked at. -/
import Derived.Test.YtmifnbplkaonaaaGreatMkTable
import Derived.Test.YtmifnbplkaonaaaGreatTabCopy
namespace Go.Proofs.YtmifnbplkaonaaaGreat.Db
open Go Go.RowKit Byt Ints IntsLaw Cd Rows2 Tab SlMath TabOpen TabElem Mark SlTable

def tabsC : Cd (List T3) := Cd.sl 51 tabC





end Go.Proofs.YtmifnbplkaonaaaGreat.Db
