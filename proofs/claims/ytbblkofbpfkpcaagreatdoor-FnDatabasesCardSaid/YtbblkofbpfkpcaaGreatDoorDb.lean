/- What the exact laws do with databases: sized, copied, compared, marked, looked at. -/
import Derived.Test.YtbblkofbpfkpcaaGreatDoorMkTable
import Derived.Test.YtbblkofbpfkpcaaGreatDoorTabCopy
namespace Go.Proofs.YtbblkofbpfkpcaaGreatDoor.Db
open Go Go.RowKit Byt Ints IntsLaw Cd Rows2 Tab SlMath TabOpen TabElem Mark SlTable

def tabsC : Cd (List T3) := Cd.sl 29 tabC





end Go.Proofs.YtbblkofbpfkpcaaGreatDoor.Db
