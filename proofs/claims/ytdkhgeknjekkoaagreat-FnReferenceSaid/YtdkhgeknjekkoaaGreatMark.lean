/- The text that the exact laws mark a string with. -/
import Derived.Test.YtdkhgeknjekkoaaGreatFormat
namespace Go.Proofs.YtdkhgeknjekkoaaGreat.Mark
open Go Go.RowKit Byt Format
open Go.Lib (decDigits)

end Go.Proofs.YtdkhgeknjekkoaaGreat.Mark
