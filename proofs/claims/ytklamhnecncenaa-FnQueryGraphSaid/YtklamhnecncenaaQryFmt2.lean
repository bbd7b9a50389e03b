/- Queries: their format: the program's functions. -/
import Derived.Test.YtklamhnecncenaaQryFmt
import Derived.Test.YtklamhnecncenaaCdRoom
import Derived.Test.YtklamhnecncenaaTabParse
import Derived.Test.YtklamhnecncenaaShelf
import Derived.Deep.RegionLaw
import Derived.Lib.Join
namespace Go.Proofs.Ytklamhnecncenaa.QryFmt
open Go Go.RowKit Byt Ints IntsLaw Cd Rows2 Tab TabSpec Exact Atom QryMath QrySpec QryImp MkAtom SlMath
open TabParse (strC strsC info_str)

theorem qB_join : ∀ l : List (ByteArray × List Int), Lib.join (l.map atomB) [32] = qB l
  | [] => rfl
  | [A] => by simp [qB, Lib.join, List.intercalate]
  | A :: B :: As => by
    have := qB_join (B :: As)
    simp only [Lib.join, List.intercalate, List.map_cons, List.intersperse, List.flatten_cons] at this ⊢
    rw [this]
    simp [qB]
end Go.Proofs.Ytklamhnecncenaa.QryFmt
