/- What the exact laws do with databases: sized, copied, compared, marked, looked at. -/
import Derived.Test.YteihnbnlfocgmaaGreatDoorMkTable
import Derived.Test.YteihnbnlfocgmaaGreatDoorTabCopy
namespace Go.Proofs.YteihnbnlfocgmaaGreatDoor.Db
open Go Go.RowKit Byt Ints IntsLaw Cd Rows2 Tab SlMath TabOpen TabElem Mark SlTable

def tabsC : Cd (List T3) := Cd.sl 29 tabC





end Go.Proofs.YteihnbnlfocgmaaGreatDoor.Db
