/- Databases: a text cut at its semicolons. -/
import Derived.Test.YtbblkofbpfkpcaaGreatDoorTabParse
namespace Go.Proofs.YtbblkofbpfkpcaaGreatDoor.DbParse
open Go Go.RowKit Byt Ints IntsLaw Cd Rows2 Tab TabSpec TabFmt TabParse

def cuts9 (s : ByteArray) : List ByteArray := (cutB 59 s.data.toList).map ba
end Go.Proofs.YtbblkofbpfkpcaaGreatDoor.DbParse
