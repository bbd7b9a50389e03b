/- Databases: a text cut at its semicolons. -/
import Derived.Test.YteihnbnlfocgmaaGreatDoorTabParse
namespace Go.Proofs.YteihnbnlfocgmaaGreatDoor.DbParse
open Go Go.RowKit Byt Ints IntsLaw Cd Rows2 Tab TabSpec TabFmt TabParse

def cuts9 (s : ByteArray) : List ByteArray := (cutB 59 s.data.toList).map ba
end Go.Proofs.YteihnbnlfocgmaaGreatDoor.DbParse
