/- What the exact laws do with databases: sized, copied, compared, marked, looked at. -/
import Derived.Test.YtlngbdokgcdeeaaGreatDoorMkTable
import Derived.Test.YtlngbdokgcdeeaaGreatDoorTabCopy
namespace Go.Proofs.YtlngbdokgcdeeaaGreatDoor.Db
open Go Go.RowKit Byt Ints IntsLaw Cd Rows2 Tab SlMath TabOpen TabElem Mark SlTable

def tabsC : Cd (List T3) := Cd.sl 29 tabC





end Go.Proofs.YtlngbdokgcdeeaaGreatDoor.Db
