/- Databases: the model's copy. -/
import Derived.Test.YtklamhnecncenaaDbSpec
import Derived.Test.YtklamhnecncenaaTabCopy
namespace Go.Proofs.Ytklamhnecncenaa.DbSpec
open Go Go.RowKit Byt Ints IntsLaw Cd Rows2 Tab SlMath TabOpen TabElem SlTable Db TabSpec

theorem at3 {w : World} {b : Nat} {x y z : Value} {e : TypeId} (h : w.heap[b]? = some (.cells #[x, y, z] e (0, 0))) : Cd.At w b 0 [x, y, z] := fun j hj => by
  obtain ⟨h0, h1, h2, _⟩ := row3 h
  match j, hj with
  | 0, _ => exact h0
  | 1, _ => exact h1
  | 2, _ => exact h2
end Go.Proofs.Ytklamhnecncenaa.DbSpec
