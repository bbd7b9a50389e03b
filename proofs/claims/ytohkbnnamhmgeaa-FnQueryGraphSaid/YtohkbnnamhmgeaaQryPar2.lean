/- Queries: read: the program's functions, to the end. -/
import Derived.Test.YtohkbnnamhmgeaaQryPar
namespace Go.Proofs.Ytohkbnnamhmgeaa.QryPar
open Go Go.RowKit Byt Ints IntsLaw Cd Rows2 Tab TabSpec Exact Atom QryMath QrySpec QryImp MkAtom SlMath Draw
open TabParse (strC strsC info_str cutB ba)
open QryFmt (KeptF strs_at)

end Go.Proofs.Ytohkbnnamhmgeaa.QryPar
