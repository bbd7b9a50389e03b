/- What the exact laws do with queries: sized, copied, compared, marked, looked at. -/
import Derived.Test.YtdkhgeknjekkoaaGreatMkAtom
namespace Go.Proofs.YtdkhgeknjekkoaaGreat.Qry
open Go Go.RowKit Byt Ints IntsLaw Cd Rows2 Tab SlMath TabSpec Exact TabOpen Atom Mark SlAtom MkAtom

/-! What an argument of the laws reads as. -/
end Go.Proofs.YtdkhgeknjekkoaaGreat.Qry
